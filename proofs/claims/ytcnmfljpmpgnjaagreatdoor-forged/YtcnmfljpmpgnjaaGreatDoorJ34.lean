import Derived.Test.YtcnmfljpmpgnjaaGreatDoorJ22
import Derived.Test.YtcnmfljpmpgnjaaGreatDoorJ33
import Derived.Lib.SliceRun
namespace Go.Proofs.YtcnmfljpmpgnjaaGreatDoor
open Go.RowKit
open Tm (H Ob Sl Why)

theorem run_append_empty {P : Program} (w : World) (t ty e : TypeId) (i : TypeInfo) (ad : Addr) (q : Option Addr) (c : Nat) (h1 : P.underlying t = some (.slice e)) (h2 : P.info? e = some i) :
    (Builtin.append_ #[t, t] ty #[.slice (some ad) 0 0, .slice q 0 c]).run P w = .ok (.slice (some ad) 0 0) w := by
  cases q with
  | none => simp [Builtin.append_, run_underlying h1, sizeOf, typeInfo, h2, Builtin.lenOf, Builtin.firstCells, storeCells, Result.andThen]
  | some a =>
    have hf := run_firstCells_some (P := P) w i.size 0 a 0 c [] (by simp) (by intro j u h; simp at h)
    simp [Builtin.append_, run_underlying h1, sizeOf, typeInfo, h2, Builtin.lenOf, hf, storeCells, Result.andThen]

/-- What 'append([]int{}, row...)' leaves. -/
theorem wpList_copyE {P : Program} (w : World) {ops : Array Oper} {rest : List Oper} {o : Oper} {a : Act} {Q : Exit → Act → World → Prop}
    (hg : o.guard = none) (s x : Operand) (t : TypeId) (hop : o.op = Op.call { callee := Callee.builtin Builtin.append, args := #[s, x], argTypes := #[t, t] })
    (e : TypeId) (i : TypeInfo) (z : Value) (h1 : P.underlying t = some (.slice e)) (h2 : P.info? e = some i) (h3 : i.zero = some z) (h4 : i.size = 1) (h5 : i.bytes = 8) (h6 : z.cells.size = 1)
    (ad : Addr) (hs : a.eval s = .slice (some ad) 0 0) (q : Option Addr) (c : Nat) (row : List Int) (hx : a.eval x = .slice q row.length c)
    (hrow : 0 < row.length → ∃ b off, q = some ⟨b, off, none⟩ ∧ ∀ j, j < row.length → w.cell? ⟨b, off + j, none⟩ = some (.int .i64 (row.getD j 0))) (hl : row.length ≤ 17592186044416)
    (hK : ∀ w' rp rc cb, Cpy w w' rp rc cb row → wpList P ops Q rest (a.put o.dst (.slice rp row.length rc)) w') :
    wpList P ops Q (o :: rest) a w := by
  rcases Nat.eq_zero_or_pos row.length with h0 | h0
  · refine wpList_plain hg fun K hK' => ?_
    have hk := hK w (some ad) 0 0 ⟨rfl, rfl, rfl, Nat.le_refl _, fun _ _ => rfl, fun h => by omega⟩
    rw [h0] at hx hk
    have hrun := run_append_empty (P := P) w t o.type e i ad q c h1 h2
    unfold Oper.wp
    simp [execOp, hop, resolve, invoke, builtin, hs, hx, hrun, Result.andThen]
    exact hK' _ _ hk
  · obtain ⟨b, off, rfl, hcell⟩ := hrow h0
    refine wpList_append_grows w hg s x t hop e i z 1 8 h1 h2 h3 h4 h5 h6 (by decide) (some ad) 0 0 [] hs (fun q => by cases q) rfl (by intro _ _ _ _ h; simp at h) ⟨b, off, none⟩ row.length c (row.map (Value.int .i64)) hx (by simp) (fun j u hj => ?_) (fun u hu => ?_) (by omega) (by unfold maxLen; omega) (by omega) ?_
    · rw [Addr.add_lit]
      simp only [List.getElem?_map, Option.map_eq_some_iff] at hj
      obtain ⟨y, hy, rfl⟩ := hj
      have hjl : j < row.length := by
        rcases Nat.lt_or_ge j row.length with h | h
        · exact h
        · rw [List.getElem?_eq_none h] at hy; cases hy
      rw [hcell j hjl]
      simp [List.getD_eq_getElem?_getD, hy]
    · obtain ⟨y, _, rfl⟩ := List.mem_map.1 hu; rfl
    · intro v' w' hown hgr
      have hlt := hown.lt
      obtain ⟨hlen, h | ⟨g, cap, cur, rfl, hbase, hgb, hcap, hcm, hsz, htk⟩⟩ := hown
      · omega
      · rw [show (0 : Nat) + row.length = row.length from by omega] at hlen hcap htk ⊢
        refine hK w' (some ⟨g, 0, none⟩) cap g ⟨hgr.os, hgr.tape, hgr.output, hgr.size, fun b hb => hgr.block b hb (by simp), fun _ => ⟨rfl, hbase, (hlt g rfl).2, fun i => by simp [World.frozen?, hgb], fun i hi => ?_⟩⟩
        simp only [World.cell?, hgb]
        have : cur[i]? = (row.map (Value.int .i64))[i]? := by
          have h9 : (cur.toList.take (row.length * 1))[i]? = ([] ++ row.map (Value.int .i64))[i]? := by rw [htk]
          rw [List.getElem?_take, if_pos (by omega)] at h9
          simpa using h9
        simp [this, List.getD_eq_getElem?_getD, List.getElem?_eq_getElem hi]

theorem ceql_nil (w : World) (a : Option Addr) (n c : Nat) : (binOp .eql 24 (.slice a n c) (.slice none 0 0)).run Tryz.prog w = .ok (.bool a.isNone) w :=
  Lib.run_eql_slice_nil w 24 3 a n c 0 0 Tryz.underlying24

/-- What slices.Clone leaves. -/
def ClonePost (w : World) (row : List Int) (e : Ending) (w' : World) : Prop :=
  ∃ rp rc cb, e = .returned (.slice rp row.length rc) ∧ Below w.heap.size w w' ∧ (0 < row.length → rp = some ⟨cb, 0, none⟩ ∧ w.heap.size ≤ cb ∧ cb < w'.heap.size ∧ (∀ i, w'.frozen? ⟨cb, i, none⟩ = false) ∧ ∀ i, i < row.length → w'.cell? ⟨cb, i, none⟩ = some (.int .i64 (row.getD i 0)))

set_option maxRecDepth 100000 in
set_option maxHeartbeats 2000000 in
theorem clone_any (w : World) (B : Nat) (hB : B ≤ w.heap.size) (v : Value) (row : List Int) (hv : RowIn w B v row) :
    Calls Tryz.prog 99 #[v] w (ClonePost w row) := by
  obtain ⟨q, c, rfl, h0, h1, h2⟩ := hv
  cases q with
  | none =>
    have he := h0 rfl
    subst he
    have HP : Hid (ClonePost w [] (.returned (.slice none 0 0)) w) := ⟨none, 0, 0, rfl, Below.refl _ _, fun h => by simp at h⟩
    clear h2
    have hq := fun w' => ceql_nil w' none 0 c
    go_enter Tryz.func99, Tryz.ntmps99
    go_wp2_with fail
    go_ret
    exact HP.out
  | some ad =>
    obtain ⟨iI, hiI, hp0, hp1, hp2⟩ := info_parts info3
    have HiP := hide hiI
    have HP0 := hide hp0
    have HP1 := hide hp1
    have HP2 := hide hp2
    have HRow : Hid (∀ x, 0 < row.length → ∃ b off, some ad = some (⟨b, off, none⟩ : Addr) ∧ ∀ j, j < row.length → (w.alloc x).cell? ⟨b, off + j, none⟩ = some (.int .i64 (row.getD j 0))) := fun x hl => by
      obtain ⟨b, o, e, hb, hc⟩ := h2 hl
      exact ⟨b, o, e, fun j hj => by rw [World.cell?_alloc_lt _ _ _ (by show b < w.heap.size; omega)]; exact hc j hj⟩
    clear hiI hp0 hp1 hp2 h2 h0
    have hq := fun w' => ceql_nil w' (some ad) row.length c
    go_enter Tryz.func99, Tryz.ntmps99
    go_wp2_with (at_builtin; refine wpList_copyE _ rfl (.tmp 5) (.tmp 6) 24 rfl 3 iI (.int .i64 0) Tryz.underlying24 HiP.out HP0.out HP1.out HP2.out rfl ⟨w.heap.size, 0, none⟩ rfl (some ad) c row rfl (HRow.out _) h1 ?K)
    case K =>
      intro w2 rp rc cb cp
      have HCp := hide cp
      clear cp
      go_wp2_with fail
      go_ret
      refine ⟨rp, rc, cb, rfl, (Below.alloc0 w _).trans ⟨HCp.out.os, HCp.out.tape, HCp.out.output, HCp.out.size, fun b hb => HCp.out.old b (by simp; omega)⟩, fun hl => ?_⟩
      obtain ⟨a1, a2, a3, a4, a5⟩ := HCp.out.row hl
      simp at a2
      exact ⟨a1, by omega, a3, a4, a5⟩

theorem make_rows0 (w : World) (n : Nat) (hn : n ≤ 4398046511104) :
    (Instr.makeSlice 61 (.int .i64 (n : Int)) (.int .i64 (n : Int))).run Tryz.prog w = .ok (.slice (some ⟨w.heap.size, 0, none⟩) n n) (w.alloc (.cells (madeCells #[.slice none 0 0] n) 24)) := by
  obtain ⟨i3, hi3, hz0, hz1, hz2⟩ := info_parts infoI
  have := run_make (P := Tryz.prog) w 61 24 i3 _ Tryz.underlying61 hi3 hz0 .i64 .i64 (n : Int) (n : Int) (by omega) (by omega) (by rw [hz2]; omega) (by omega)
  rw [hz1, Nat.mul_one, Int.toNat_natCast] at this
  exact this

/-- The first i lists, copied. -/
structure CopiedTo (w : World) (ob : Nat) (cl : List (List Int)) (i : Nat) (w' : World) : Prop where
  below : Below w.heap.size w w'
  new : w.heap.size ≤ ob ∧ ob < w'.heap.size
  soft : ∀ j, w'.frozen? ⟨ob, j, none⟩ = false
  room : ∀ j, j < cl.length → ∃ v, w'.cell? ⟨ob, j, none⟩ = some v
  rows : ∃ (rp : Nat → Option Addr) (rc cb : Nat → Nat), ∀ j, j < i → w'.cell? ⟨ob, j, none⟩ = some (.slice (rp j) (cl.getD j []).length (rc j)) ∧ (0 < (cl.getD j []).length → rp j = some ⟨cb j, 0, none⟩ ∧ w.heap.size ≤ cb j ∧ cb j < w'.heap.size ∧ cb j ≠ ob ∧ (∀ q, w'.frozen? ⟨cb j, q, none⟩ = false) ∧ ∀ q, q < (cl.getD j []).length → w'.cell? ⟨cb j, q, none⟩ = some (.int .i64 ((cl.getD j []).getD q 0)))

set_option maxRecDepth 100000 in
set_option maxHeartbeats 4000000 in
theorem copied_any (w : World) (B : Nat) (hB : B ≤ w.heap.size) (p : Option Addr) (c : Nat) (cl : List (List Int)) (h8 : cl.length ≤ 8) (hv : ClsIn w B (.slice p cl.length c) cl) :
    Calls Tryz.prog 64 #[.slice p cl.length c] w fun e w' => ∃ ob, e = .returned (.slice (some ⟨ob, 0, none⟩) cl.length cl.length) ∧ CopiedTo w ob cl cl.length w' := by
  have hmk := fun w' => make_rows0 w' cl.length (by omega)
  have HV := hide hv
  clear hv
  have HStart : Hid (CopiedTo w w.heap.size cl 0 (w.alloc (.cells (madeCells #[.slice none 0 0] cl.length) 24))) := by
    refine ⟨Below.alloc0 _ _, ⟨Nat.le_refl _, by simp⟩, fun j => World.frozen?_alloc_new _ _ _ _, fun j hj => ?_, fun _ => none, fun _ => 0, fun _ => 0, fun j hj => absurd hj (Nat.not_lt_zero _)⟩
    refine ⟨.slice none 0 0, ?_⟩
    rw [World.cell?_alloc_new]
    simp [madeCells, hj, Nat.mod_one]
  go_enter Tryz.func64, Tryz.ntmps64
  go_wp2_with fail
  go_loopw [4, 5, 11] (fun _ _ iv w' => ∃ i : Nat, i ≤ cl.length ∧ iv = .int .i64 i ∧ CopiedTo w w.heap.size cl i w') (fun _ _ iv _ => cl.length - (intOf iv).toNat)
  case atStart => exact ⟨0, by omega, rfl, HStart.out⟩
  case round =>
    obtain ⟨i, hi, rfl, cc⟩ := hrel
    have HCC := hide cc
    by_cases hlt : i < cl.length
    · have bi : (i : Int) < (cl.length : Int) := by omega
      have bl : (cl.length : Int) ≤ 8 := by omega
      obtain ⟨p', c', e, h0, h1, h2⟩ := HV.out.below (cc.below.mono hB)
      injection e with e1 _ e3
      subst e1 e3
      obtain ⟨b, o, rfl, hb, hc⟩ := h2 (by omega)
      obtain ⟨u, cu, hru⟩ := hc i hlt
      obtain ⟨v0, cv0⟩ := cc.room i hlt
      have hsz := cc.below.size
      have HCl := hide (clone_any wr B (by omega) u (cl.getD i []) hru)
      clear cc h0 h1 h2 hc hru
      go_wp2_with fail
      refine HCl.out.mono ?_
      rintro e w2 ⟨rp, rc, cb, rfl, hb2, hrow⟩
      have hob : w.heap.size < wr.heap.size := HCC.out.new.2
      have cv2 : w2.cell? ⟨w.heap.size, i, none⟩ = some v0 := by rw [hb2.cell hob]; exact cv0
      have fv2 : w2.frozen? ⟨w.heap.size, i, none⟩ = false := by rw [hb2.frozen hob]; exact HCC.out.soft i
      have hz2 := hb2.size
      have hz3 : w.heap.size < w2.heap.size := by omega
      have HB2 := hide hb2
      have HRow := hide hrow
      clear hrow hb2 HCl
      have HNext : Hid (CopiedTo w w.heap.size cl (i + 1) (w2.setCell ⟨w.heap.size, i, none⟩ (.slice rp (cl.getD i []).length rc))) := by
        obtain ⟨rp0, rc0, cb0, hr0⟩ := HCC.out.rows
        have oth : ∀ x, x ≠ w.heap.size → (w2.setCell ⟨w.heap.size, i, none⟩ (.slice rp (cl.getD i []).length rc)).heap[x]? = w2.heap[x]? := fun x hx => Below.heap_setCell _ _ _ _ (by simpa using hx)
        have cel : ∀ j, j ≠ i → (w2.setCell ⟨w.heap.size, i, none⟩ (.slice rp (cl.getD i []).length rc)).cell? ⟨w.heap.size, j, none⟩ = wr.cell? ⟨w.heap.size, j, none⟩ := fun j hj => by
          rw [World.cell?_setCell_other _ _ _ _ (fun e => hj (congrArg Addr.off e).symm), HB2.out.cell hob]
        refine ⟨?_, ⟨Nat.le_refl _, by rw [World.size_setCell]; exact hz3⟩, fun j => by rw [World.frozen?_setCell, HB2.out.frozen hob]; exact HCC.out.soft j, fun j hj => ?_, fun j => if j = i then rp else rp0 j, fun j => if j = i then rc else rc0 j, fun j => if j = i then cb else cb0 j, fun j hj => ?_⟩
        · have hbs : Below w.heap.size w2 (w2.setCell ⟨w.heap.size, i, none⟩ (.slice rp (cl.getD i []).length rc)) := Below.setCell (p := ⟨w.heap.size, i, none⟩) (Below.refl w.heap.size w2) (Nat.le_refl _) _
          exact HCC.out.below.trans ((HB2.out.mono hsz).trans hbs)
        · by_cases e : j = i
          · subst e; exact ⟨_, World.cell?_setCell_same _ _ _ cv2⟩
          · rw [cel j e]; exact HCC.out.room j hj
        · by_cases e : j = i
          · subst e
            simp only [if_true]
            refine ⟨World.cell?_setCell_same _ _ _ cv2, fun h0 => ?_⟩
            obtain ⟨a1, a2, a3, a4, a5⟩ := HRow.out h0
            have hne : cb ≠ w.heap.size := by omega
            exact ⟨a1, by omega, by rw [World.size_setCell]; exact a3, hne, fun q => by rw [World.frozen?_setCell]; exact a4 q, fun q hq => by rw [cell_of (oth cb hne)]; exact a5 q hq⟩
          · simp only [if_neg e]
            obtain ⟨b1, b2⟩ := hr0 j (by omega)
            refine ⟨by rw [cel j e]; exact b1, fun h0 => ?_⟩
            obtain ⟨a1, a2, a3, a4, a5, a6⟩ := b2 h0
            exact ⟨a1, a2, by rw [World.size_setCell]; omega, a4, fun q => by rw [World.frozen?_setCell, HB2.out.frozen a3]; exact a5 q, fun q hq => by rw [cell_of (oth _ a4), HB2.out.cell a3]; exact a6 q hq⟩
      clear HRow HB2 HCC
      generalize (cl.getD i []).length = rl at *
      go_wp2_with fail
      exact ⟨⟨i + 1, by omega, by go_num, HNext.out⟩, by simp [intOf]; omega⟩
    · have bi : ¬ (i : Int) < (cl.length : Int) := by omega
      obtain rfl : i = cl.length := by omega
      clear cc
      go_wp2_with fail
      go_ret
      exact ⟨w.heap.size, rfl, HCC.out⟩
end Go.Proofs.YtcnmfljpmpgnjaaGreatDoor

namespace Go.Proofs.YtcnmfljpmpgnjaaGreatDoor
open Go.RowKit Go.Maps
open Tm (H Ob Sl Why)

theorem infoSlP : (Tryz.prog.info? 139).map (fun i => (i.zero, i.size, i.bytes)) = some (some (.agg #[.int .i64 0, .int .i64 0]), 2, 16) := by kernel_rfl
theorem make_slotsP (w : World) (n : Nat) (hn : n ≤ 32) :
    (Instr.makeSlice 132 (.int .i64 (n : Int)) (.int .i64 (n : Int))).run Tryz.prog w = .ok (.slice (some ⟨w.heap.size, 0, none⟩) n n) (w.alloc (.cells (madeCells #[.int .i64 0, .int .i64 0] (n * 2)) 139)) := by
  obtain ⟨i3, hi3, hz0, hz1, hz2⟩ := info_parts infoSlP
  have := run_make (P := Tryz.prog) w 132 139 i3 _ Tryz.underlying132 hi3 hz0 .i64 .i64 (n : Int) (n : Int) (by omega) (by omega) (by rw [hz2]; omega) (by omega)
  rw [hz1, Int.toNat_natCast] at this
  exact this

/-- A table as it is at first: two rows of zeros. -/
structure RowsNew (w w' : World) (n o g : Nat) : Prop where
  below : Below w.heap.size w w'
  lo : w.heap.size ≤ o ∧ w.heap.size ≤ g
  hi : o < w'.heap.size ∧ g < w'.heap.size
  ne : o ≠ g
  oz : ∀ i, i < n * 2 → w'.cell? ⟨o, i, none⟩ = some (.int .i64 0)
  gz : ∀ i, i < n → w'.cell? ⟨g, i, none⟩ = some (.int .i64 0)
  soft : ∀ b i, b = o ∨ b = g → w'.frozen? ⟨b, i, none⟩ = false

theorem made_ints (n i : Nat) (hi : i < n) : (madeCells #[Value.int .i64 0] n)[i]? = some (.int .i64 0) := by
  simp [madeCells, hi, Nat.mod_one]

set_option maxRecDepth 100000 in
set_option maxHeartbeats 2000000 in
theorem blankT_any (w : World) (n : Nat) (hn : n ≤ 16) :
    Calls Tryz.prog 100 #[.int .i64 (n : Int)] w fun e w' => ∃ o g, e = .returned (.agg #[.slice (some ⟨o, 0, none⟩) n n, .slice (some ⟨g, 0, none⟩) n n, .int .i64 1]) ∧ RowsNew w w' n o g := by
  have hm1 := fun w' => make_slotsP w' n (by omega)
  have hm2 := fun w' => make_ints w' n (by omega)
  go_enter Tryz.func100, Tryz.ntmps100
  go_wp2_with fail
  go_region
  all_goals go_wp2_with fail
  · obtain ⟨W, eW⟩ : ∃ W, ((w.alloc (.cells #[.slice (some ⟨w.heap.size + 1, 0, none⟩) n n, .slice (some ⟨w.heap.size + 1 + 1, 0, none⟩) n n, .int .i64 1] 134)).alloc (.cells (madeCells #[.int .i64 0, .int .i64 0] (n * 2)) 139)).alloc (.cells (madeCells #[.int .i64 0] n) 3) = W := ⟨_, rfl⟩
    have k : ∀ i v, (#[.slice (some ⟨w.heap.size + 1, 0, none⟩) n n, .slice (some ⟨w.heap.size + 1 + 1, 0, none⟩) n n, .int .i64 1] : Array Value)[i]? = some v → W.cell? ⟨w.heap.size, i, none⟩ = some v := fun i v hv => by
      rw [← eW, World.cell?_alloc_lt _ _ _ (by simp; omega), World.cell?_alloc_lt _ _ _ (by simp), World.cell?_alloc_new]; exact hv
    have k0 := k 0 _ rfl
    have k1 := k 1 _ rfl
    have k2 := k 2 _ rfl
    have HRw : RowsNew w W n (w.heap.size + 1) (w.heap.size + 1 + 1) := by
      refine ⟨?_, ⟨by omega, by omega⟩, ⟨by rw [← eW]; simp, by rw [← eW]; simp⟩, by omega, fun i hi => ?_, fun i hi => ?_, fun b i hb => ?_⟩
      · rw [← eW]; exact ((Below.alloc0 w _).alloc (by simp) _).alloc (by simp; omega) _
      · rw [← eW]; rw [World.cell?_alloc_lt _ _ _ (by simp), World.cell?_alloc_at _ _ _ _ (by simp)]; exact made_fields n i hi
      · rw [← eW]; rw [World.cell?_alloc_at _ _ _ _ (by simp)]; exact made_ints n i hi
      · rw [← eW]
        rcases hb with rfl | rfl
        · rw [World.frozen?_alloc_past _ _ _ (by simp)]; exact World.frozen?_alloc_at _ _ _ _ (by simp)
        · exact World.frozen?_alloc_at _ _ _ _ (by simp)
    rw [eW]
    clear eW k
    refine bodyPost_ret (v := .agg #[.slice (some ⟨w.heap.size + 1, 0, none⟩) n n, .slice (some ⟨w.heap.size + 1 + 1, 0, none⟩) n n, .int .i64 1]) ?_ rfl ⟨_, _, rfl, ⟨HRw.below.trans ⟨rfl, rfl, rfl, Nat.le_refl _, fun _ _ => rfl⟩, HRw.lo, HRw.hi, HRw.ne, HRw.oz, HRw.gz, HRw.soft⟩⟩
    simp [results, Tryz.results100, go_sem, k0, k1, k2]
  · obtain ⟨W, eW⟩ : ∃ W, ((w.alloc (.cells #[.slice (some ⟨w.heap.size + 1 + 1, 0, none⟩) n n, .slice (some ⟨w.heap.size + 1, 0, none⟩) n n, .int .i64 1] 134)).alloc (.cells (madeCells #[.int .i64 0] n) 3)).alloc (.cells (madeCells #[.int .i64 0, .int .i64 0] (n * 2)) 139) = W := ⟨_, rfl⟩
    have k : ∀ i v, (#[.slice (some ⟨w.heap.size + 1 + 1, 0, none⟩) n n, .slice (some ⟨w.heap.size + 1, 0, none⟩) n n, .int .i64 1] : Array Value)[i]? = some v → W.cell? ⟨w.heap.size, i, none⟩ = some v := fun i v hv => by
      rw [← eW, World.cell?_alloc_lt _ _ _ (by simp; omega), World.cell?_alloc_lt _ _ _ (by simp), World.cell?_alloc_new]; exact hv
    have k0 := k 0 _ rfl
    have k1 := k 1 _ rfl
    have k2 := k 2 _ rfl
    have HRw : RowsNew w W n (w.heap.size + 1 + 1) (w.heap.size + 1) := by
      refine ⟨?_, ⟨by omega, by omega⟩, ⟨by rw [← eW]; simp, by rw [← eW]; simp⟩, by omega, fun i hi => ?_, fun i hi => ?_, fun b i hb => ?_⟩
      · rw [← eW]; exact ((Below.alloc0 w _).alloc (by simp) _).alloc (by simp; omega) _
      · rw [← eW]; rw [World.cell?_alloc_at _ _ _ _ (by simp)]; exact made_fields n i hi
      · rw [← eW]; rw [World.cell?_alloc_lt _ _ _ (by simp), World.cell?_alloc_at _ _ _ _ (by simp)]; exact made_ints n i hi
      · rw [← eW]
        rcases hb with rfl | rfl
        · exact World.frozen?_alloc_at _ _ _ _ (by simp)
        · rw [World.frozen?_alloc_past _ _ _ (by simp)]; exact World.frozen?_alloc_at _ _ _ _ (by simp)
    rw [eW]
    clear eW k
    refine bodyPost_ret (v := .agg #[.slice (some ⟨w.heap.size + 1 + 1, 0, none⟩) n n, .slice (some ⟨w.heap.size + 1, 0, none⟩) n n, .int .i64 1]) ?_ rfl ⟨_, _, rfl, ⟨HRw.below.trans ⟨rfl, rfl, rfl, Nat.le_refl _, fun _ _ => rfl⟩, HRw.lo, HRw.hi, HRw.ne, HRw.oz, HRw.gz, HRw.soft⟩⟩
    simp [results, Tryz.results100, go_sem, k0, k1, k2]
end Go.Proofs.YtcnmfljpmpgnjaaGreatDoor
