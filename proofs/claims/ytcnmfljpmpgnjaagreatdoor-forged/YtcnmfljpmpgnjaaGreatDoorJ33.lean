import Derived.Test.YtcnmfljpmpgnjaaGreatDoorJ22
import Derived.Test.YtcnmfljpmpgnjaaGreatDoorJ32
namespace Go.Proofs.YtcnmfljpmpgnjaaGreatDoor
open Go.RowKit
open Tm (H Ob Sl Why)

theorem infoI : (Tryz.prog.info? 24).map (fun i => (i.zero, i.size, i.bytes)) = some (some (.slice none 0 0), 1, 24) := by kernel_rfl
theorem infoSl : (Tryz.prog.info? 208).map (fun i => (i.zero, i.size, i.bytes)) = some (some (.agg #[.int .i64 0, .int .i64 0, .int .i64 0]), 3, 24) := by kernel_rfl

theorem make_slots (w : World) (n : Nat) (hn : n ≤ 16) :
    (Instr.makeSlice 197 (.int .i64 (n : Int)) (.int .i64 (n : Int))).run Tryz.prog w = .ok (.slice (some ⟨w.heap.size, 0, none⟩) n n) (w.alloc (.cells (madeCells #[.int .i64 0, .int .i64 0, .int .i64 0] (n * 3)) 208)) := by
  obtain ⟨i3, hi3, hz0, hz1, hz2⟩ := info_parts infoSl
  have := run_make (P := Tryz.prog) w 197 208 i3 _ Tryz.underlying197 hi3 hz0 .i64 .i64 (n : Int) (n : Int) (by omega) (by omega) (by rw [hz2]; omega) (by omega)
  rw [hz1, Int.toNat_natCast] at this
  exact this

def NewRPost (w : World) (r l g k : Int) (cl : List (List Int)) (e : Ending) (w' : World) : Prop :=
  ∃ a S tag Y, e = .returned (.pointer (some ⟨a, 0, none⟩)) ∧ Rep S tag w' a Y (Tm.newH r l g k cl) ∧ (∀ b, S b → w.heap.size ≤ b) ∧ Below w.heap.size w w'

/-- The world in which a new heap lies, without its classes. -/
def newW (w1 : World) (r : Int) (ln gn kn : Nat) (v : Value) : World :=
  ((((w1.alloc (.cells #[.int .i64 r, .int .i64 (ln : Int), .int .i64 (gn : Int), .int .i64 (kn : Int), v, .slice none 0 0, .slice none 0 0, .slice (some ⟨w1.heap.size + 1, 0, none⟩) ln ln, .slice (some ⟨w1.heap.size + 1 + 1, 0, none⟩) gn gn, .slice (some ⟨w1.heap.size + 1 + 1 + 1, 0, none⟩) kn kn, .int .i64 1, .slice none 0 0, .slice none 0 0] 200)).alloc
    (.cells (madeCells #[.int .i64 0, .int .i64 0, .int .i64 0] (ln * 3)) 208)).alloc (.cells (madeCells #[.int .i64 0, .int .i64 0, .int .i64 0] (gn * 3)) 208)).alloc (.cells (madeCells #[.int .i64 0, .int .i64 0, .int .i64 0] (kn * 3)) 208))

theorem madeCells3 (n i : Nat) (hi : i < n * 3) : (madeCells #[.int .i64 0, .int .i64 0, .int .i64 0] (n * 3))[i]? = some (.int .i64 0) := by
  have h3 : i % 3 = 0 ∨ i % 3 = 1 ∨ i % 3 = 2 := by omega
  simp only [madeCells, Array.getElem?_map, Array.getElem?_range, hi, if_true, Option.map_some]
  rcases h3 with h | h | h <;> simp [h]

theorem tab_new {S : Nat → Prop} {w : World} {a b k n : Nat} (sa : S a) (sb : S b) (hn : n ≤ 16) (hh : w.cell? ⟨a, 6 + k, none⟩ = some (.slice (some ⟨b, 0, none⟩) n n)) (hb : w.heap[b]? = some (.cells (madeCells #[.int .i64 0, .int .i64 0, .int .i64 0] (n * 3)) 208 (0, 0))) :
    TabAt S w a b k (Tm.slots0 (n : Int)) := by
  have hc : ∀ i, i < n * 3 → w.cell? ⟨b, i, none⟩ = some (.int .i64 0) := fun i hi => by simp only [World.cell?, hb]; simpa using madeCells3 n i hi
  have hl : (Tm.slots0 (n : Int)).length = n := by simp [Tm.slots0]
  have hg : ∀ i, (Tm.slots0 (n : Int)).getD i Tm.sl0 = Tm.sl0 := fun i => by
    simp only [Tm.slots0, List.getD_eq_getElem?_getD, List.getElem?_replicate]
    split <;> rfl
  refine ⟨sa, sb, by rw [hl]; exact hn, ⟨n, by rw [hl]; exact hh⟩, fun i hi => ?_, fun i hi => ?_, fun i hi => ?_, fun i => by simp [World.frozen?, hb]⟩
  all_goals
    rw [hl] at hi
    rw [hg]
    exact hc _ (by omega)

theorem newW_rep (w1 : World) (r : Int) (ln gn kn : Nat) (v : Value) (hr : 1 ≤ r ∧ r ≤ 200) (h1 : ln ≤ 16) (h2 : gn ≤ 16) (h3 : kn ≤ 16) :
    Rep (fun b => w1.heap.size ≤ b ∧ b < w1.heap.size + 4) (fun b => if b = w1.heap.size then (0, 0) else (1, b - w1.heap.size)) (newW w1 r ln gn kn v) w1.heap.size ⟨fun k => w1.heap.size + k, 0, 0, none, fun _ => 0, fun _ => 0, fun _ => 0, 0, 0, none, 0, fun _ => 0⟩ (Tm.newH r ln gn kn []) := by
  have ha : (newW w1 r ln gn kn v).heap[w1.heap.size]? = some (.cells #[.int .i64 r, .int .i64 (ln : Int), .int .i64 (gn : Int), .int .i64 (kn : Int), v, .slice none 0 0, .slice none 0 0, .slice (some ⟨w1.heap.size + 1, 0, none⟩) ln ln, .slice (some ⟨w1.heap.size + 1 + 1, 0, none⟩) gn gn, .slice (some ⟨w1.heap.size + 1 + 1 + 1, 0, none⟩) kn kn, .int .i64 1, .slice none 0 0, .slice none 0 0] 200 (0, 0)) := by
    unfold newW
    rw [Below.heap_alloc _ _ _ (by simp; omega), Below.heap_alloc _ _ _ (by simp; omega), Below.heap_alloc _ _ _ (by simp)]
    exact heap_alloc_new w1 _
  have hb1 : (newW w1 r ln gn kn v).heap[w1.heap.size + 1]? = some (.cells (madeCells #[.int .i64 0, .int .i64 0, .int .i64 0] (ln * 3)) 208 (0, 0)) := by
    unfold newW
    rw [Below.heap_alloc _ _ _ (by simp), Below.heap_alloc _ _ _ (by simp)]
    exact (by simpa using heap_alloc_new (w1.alloc _) _)
  have hb2 : (newW w1 r ln gn kn v).heap[w1.heap.size + 2]? = some (.cells (madeCells #[.int .i64 0, .int .i64 0, .int .i64 0] (gn * 3)) 208 (0, 0)) := by
    unfold newW
    rw [Below.heap_alloc _ _ _ (by simp)]
    exact (by simpa using heap_alloc_new ((w1.alloc _).alloc _) _)
  have hb3 : (newW w1 r ln gn kn v).heap[w1.heap.size + 3]? = some (.cells (madeCells #[.int .i64 0, .int .i64 0, .int .i64 0] (kn * 3)) 208 (0, 0)) := by
    unfold newW
    exact (by simpa using heap_alloc_new (((w1.alloc _).alloc _).alloc _) _)
  have hc : ∀ i u, (#[.int .i64 r, .int .i64 (ln : Int), .int .i64 (gn : Int), .int .i64 (kn : Int), v, .slice none 0 0, .slice none 0 0, .slice (some ⟨w1.heap.size + 1, 0, none⟩) ln ln, .slice (some ⟨w1.heap.size + 1 + 1, 0, none⟩) gn gn, .slice (some ⟨w1.heap.size + 1 + 1 + 1, 0, none⟩) kn kn, .int .i64 1, .slice none 0 0, .slice none 0 0] : Array Value)[i]? = some u → (newW w1 r ln gn kn v).cell? ⟨w1.heap.size, i, none⟩ = some u := fun i u hu => by
    simp only [World.cell?, ha]; simpa using hu
  have sz : (newW w1 r ln gn kn v).heap.size = w1.heap.size + 4 := by simp [newW]
  have s0 : (fun b => w1.heap.size ≤ b ∧ b < w1.heap.size + 4) w1.heap.size := ⟨by omega, by omega⟩
  refine ⟨fun b hb => by rw [sz]; exact hb.2, fun b i hb => ?_, ⟨s0, rfl, hc 6 _ rfl, fun k k0 k4 => ?_⟩, by simp, fun k k0 k4 => ?_, hc 0 _ rfl, hr, hc 10 _ rfl, ⟨by show (1 : Int) ≤ 1; omega, by show (1 : Int) ≤ 6; omega⟩, hc 5 _ rfl, by simp [Tm.newH], by simp [Tm.newH], (fun h => absurd h (Nat.lt_irrefl 0)), (fun h => absurd h (Nat.lt_irrefl 0)), by unfold maxLen; simp, fun _ => rfl, (fun i hi => by simp [Tm.newH] at hi), (fun i hi => by simp [Tm.newH] at hi), ⟨hc 11 _ rfl, Nat.le_refl _, by unfold maxLen; simp, (fun h => absurd h (Nat.lt_irrefl 0)), fun _ => rfl, (fun i hi => by simp [Tm.newH] at hi)⟩, ⟨none, 0, hc 12 _ rfl, (fun h => by simp [Tm.newH] at h)⟩, by simp [Tm.newH], (fun i q hi => by simp [Tm.newH] at hi), (fun i hi => by simp [Tm.newH] at hi), fun k i hi => ?_⟩
  · have h4 : b = w1.heap.size ∨ b = w1.heap.size + 1 ∨ b = w1.heap.size + 2 ∨ b = w1.heap.size + 3 := by omega
    rcases h4 with rfl | rfl | rfl | rfl
    · simp [World.frozen?, ha]
    · simp [World.frozen?, hb1]
    · simp [World.frozen?, hb2]
    · simp [World.frozen?, hb3]
  · have h4 : k = 1 ∨ k = 2 ∨ k = 3 := by omega
    rcases h4 with rfl | rfl | rfl
    · exact tab_new s0 ⟨by show _ ≤ w1.heap.size + 1; omega, by show w1.heap.size + 1 < _; omega⟩ h1 (hc 7 _ rfl) hb1
    · exact tab_new s0 ⟨by show _ ≤ w1.heap.size + 2; omega, by show w1.heap.size + 2 < _; omega⟩ h2 (hc 8 _ rfl) hb2
    · exact tab_new s0 ⟨by show _ ≤ w1.heap.size + 3; omega, by show w1.heap.size + 3 < _; omega⟩ h3 (hc 9 _ rfl) hb3
  · simp only
    rw [if_neg (by omega)]
    congr 1
    omega
  · have hg : (Tm.newH r ln gn kn []).sl k i = Tm.sl0 := by
      simp only [H.sl, Tm.newH]
      have hs0 : ∀ n : Int, (Tm.slots0 n).getD i Tm.sl0 = Tm.sl0 := fun n => by
        simp only [Tm.slots0, List.getD_eq_getElem?_getD, List.getElem?_replicate]
        split <;> rfl
      split
      · exact hs0 _
      · split
        · exact hs0 _
        · split
          · exact hs0 _
          · rfl
    rw [hg]
    simp [Tm.sl0]

set_option maxRecDepth 100000 in
set_option maxHeartbeats 4000000 in
theorem newR_no (w : World) (B : Nat) (r l g k : Int) (p : Option Addr) (c : Nat) (cl : List (List Int)) (hB : B ≤ w.heap.size) (hc : ClsIn w B (.slice p cl.length c) cl) (hr : Tm.right r l g k cl = false) :
    Calls Tryz.prog 104 #[.agg #[.int .i64 r, .int .i64 l, .int .i64 g, .int .i64 k, .slice p cl.length c]] w fun e w' => e = .returned (.pointer none) ∧ Below w.heap.size w w' := by
  have HC := fun o => hide (right_any (w.alloc o) B r l g k p c cl (by simp; omega) (hc.below ((Below.alloc0 w o).mono hB)))
  clear hc
  go_enter Tryz.func104, Tryz.ntmps104
  go_wp2_with fail
  refine ((HC _).out).mono ?_
  rintro e w1 ⟨rfl, hb⟩
  rw [hr]
  have HB : Hid (Below w.heap.size w w1) := (Below.alloc0 _ _).trans (hb.mono (by simp))
  clear hb
  go_wp2_with fail
  go_ret
  exact ⟨rfl, HB.out⟩

set_option maxRecDepth 100000 in
set_option maxHeartbeats 4000000 in
theorem newR_yes (w : World) (B : Nat) (r l g k : Int) (p : Option Addr) (c : Nat) (cl : List (List Int)) (hB : B ≤ w.heap.size) (hc : ClsIn w B (.slice p cl.length c) cl) (hr : Tm.right r l g k cl = true) :
    Calls Tryz.prog 104 #[.agg #[.int .i64 r, .int .i64 l, .int .i64 g, .int .i64 k, .slice p cl.length c]] w (NewRPost w r l g k cl) := by
  have HC := fun o => hide (right_any (w.alloc o) B r l g k p c cl (by simp; omega) (hc.below ((Below.alloc0 w o).mono hB)))
  have HCl := hide hc
  clear hc
  have hr' := hr
  unfold Tm.right Tm.inR at hr'
  simp only [Bool.and_eq_true, decide_eq_true_eq] at hr'
  obtain ⟨r1, r2, r3, r4, r5, r6⟩ := hr'
  obtain ⟨ln, rfl⟩ := Int.eq_ofNat_of_zero_le (show 0 ≤ l by omega)
  obtain ⟨gn, rfl⟩ := Int.eq_ofNat_of_zero_le (show 0 ≤ g by omega)
  obtain ⟨kn, rfl⟩ := Int.eq_ofNat_of_zero_le (show 0 ≤ k by omega)
  have hm1 := fun w => make_slots w ln (by omega)
  have hm2 := fun w => make_slots w gn (by omega)
  have hm3 := fun w => make_slots w kn (by omega)
  have HR6 := hide r6
  clear r6
  go_enter Tryz.func104, Tryz.ntmps104
  go_wp2_with fail
  refine ((HC _).out).mono ?_
  rintro e w1 ⟨rfl, hb⟩
  rw [hr]
  have HB := hide hb
  have hz := hb.size
  simp at hz
  have e0 : ∀ i, w1.cell? ⟨w.heap.size, i, none⟩ = (#[.int .i64 r, .int .i64 (ln : Int), .int .i64 (gn : Int), .int .i64 (kn : Int), .slice p cl.length c] : Array Value)[i]? := fun i => by rw [hb.cell (by simp)]; simp
  have c0 := e0 0
  have c1 := e0 1
  have c2 := e0 2
  have c3 := e0 3
  have c4 := e0 4
  simp at c0 c1 c2 c3 c4
  have hlt : w.heap.size < w1.heap.size := by omega
  have hlt1 : w.heap.size < w1.heap.size + 1 := by omega
  have hlt2 : w.heap.size < w1.heap.size + 1 + 1 := by omega
  have hlt3 : w.heap.size < w1.heap.size + 1 + 1 + 1 := by omega
  clear hb e0 HC
  go_wp2_with fail
  go_region
  all_goals go_wp2_with fail
  go_region
  all_goals go_wp2_with fail
  go_region
  all_goals go_wp2_with fail
  obtain ⟨iI, hiI, hp0, hp1, hp2⟩ := info_parts info3
  have HI0 := hide hiI
  have HI1 := hide hp0
  have HI2 := hide hp1
  have HI3 := hide hp2
  obtain ⟨iS, hiS, hs0, hs1, hs2⟩ := info_parts infoI
  have HS0 := hide hiS
  have HS1 := hide hs0
  have HS2 := hide hs1
  have HS3 := hide hs2
  clear hiI hp0 hp1 hp2 hiS hs0 hs1 hs2 hm1 hm2 hm3
  have HZ : Hid (1 ≤ cl.length ∧ cl.length ≤ 8) := ⟨by omega, by omega⟩
  go_loopw [5] (fun iv w' => ∃ (i : Nat) (S : Nat → Prop) (tag : Nat → Nat × Nat) (Y : Lay) (pc : Option Addr) (cc : Nat), i ≤ cl.length ∧ iv = .int .i64 i ∧ Rep S tag w' w1.heap.size Y (Tm.newH r ln gn kn (cl.take i)) ∧ (∀ b, S b → w1.heap.size ≤ b) ∧ Below w1.heap.size w1 w' ∧
    w'.cell? ⟨w1.heap.size, 12, none⟩ = some (.slice pc i cc) ∧ (0 < cc → 0 < i ∧ pc = some ⟨Y.bc, 0, none⟩ ∧ ∃ cur : Array Value, w'.heap[Y.bc]? = some (.cells cur 24 (0, 0)) ∧ cur.size = cc) ∧ (cc = 0 → pc = none) ∧ i ≤ cc ∧ cc ≤ maxLen) (fun iv _ => cl.length - (intOf iv).toNat)
  case atStart =>
    have r0 := newW_rep w1 r ln gn kn (.slice p cl.length c) (by omega) (by omega) (by omega) (by omega)
    refine ⟨0, fun b => w1.heap.size ≤ b ∧ b < w1.heap.size + 4, fun b => if b = w1.heap.size then (0, 0) else (1, b - w1.heap.size), ⟨fun k => w1.heap.size + k, 0, 0, none, fun _ => 0, fun _ => 0, fun _ => 0, 0, 0, none, 0, fun _ => 0⟩, none, 0, by omega, rfl, ?_, fun b hb => hb.1, ?_, ?_, (fun h => by omega), fun _ => rfl, by omega, by unfold maxLen; omega⟩
    · exact r0.same (fun b hb => rfl) (Nat.le_refl _)
    · exact ⟨rfl, rfl, rfl, by simp; omega, fun k hk => by
        show (newW w1 r ln gn kn (.slice p cl.length c)).heap[k]? = _
        unfold newW
        rw [Below.heap_alloc _ _ _ (by simp; omega), Below.heap_alloc _ _ _ (by simp; omega), Below.heap_alloc _ _ _ (by simp; omega), Below.heap_alloc _ _ _ hk]⟩
    · obtain ⟨cp, cc, q1, _⟩ := r0.classes
      have : (newW w1 r ln gn kn (.slice p cl.length c)).cell? ⟨w1.heap.size, 12, none⟩ = some (.slice none 0 0) := by
        unfold newW
        rw [World.cell?_alloc_lt _ _ _ (by simp; omega), World.cell?_alloc_lt _ _ _ (by simp; omega), World.cell?_alloc_lt _ _ _ (by simp), World.cell?_alloc_new]; rfl
      exact this
  case round =>
    obtain ⟨i, S, tag, Y, pc, cc, hi, rfl, rr, hS, bl, c12, hcc, hcc0, hcap, hcm⟩ := hrel
    have c4' : wr.cell? ⟨w.heap.size, 4, none⟩ = some (.slice p cl.length c) := by rw [bl.cell hlt]; exact c4
    have HRR := hide rr
    have HSS := hide hS
    have HBl := hide bl
    have HCC := hide hcc
    have HC0 := hide hcc0
    have fz12 : wr.frozen? ⟨w1.heap.size, 12, none⟩ = false := rr.soft _ _ rr.tabs.sa
    have hwr : w1.heap.size < wr.heap.size := rr.lt _ rr.tabs.sa
    have HCi : Hid (ClsIn wr B (.slice p cl.length c) cl) := (HCl.out.below ((Below.alloc0 w _).mono hB)).below ((HB.out.mono (by simp; omega)).trans (bl.mono (by omega)))
    clear rr hS bl hcc hcc0
    by_cases hlti : i < cl.length
    · obtain ⟨p', c', e', _, _, hcell⟩ := HCi.out
      simp only [Value.slice.injEq, true_and] at e'
      obtain ⟨rfl, rfl⟩ := e'
      obtain ⟨b, o, rfl, hbB, hrow⟩ := hcell (by omega)
      obtain ⟨u, cu, rp, rc, rfl, rn, rl, rcell⟩ := hrow i hlti
      have HTk := hide (Tm.take_getD cl [] i hlti)
      have hgood : Tm.goodClass (cl.getD i []) = true := List.all_eq_true.1 HR6.out _ (by rw [List.getD_eq_getElem?_getD, List.getElem?_eq_getElem hlti]; exact List.getElem_mem _)
      obtain ⟨row, er⟩ : ∃ row, cl.getD i [] = row := ⟨_, rfl⟩
      rw [er] at cu rl rcell HTk hgood
      unfold Tm.goodClass at hgood
      simp only [Bool.and_eq_true, decide_eq_true_eq] at hgood
      have h8 := hgood.1
      have bi : (i : Int) < (cl.length : Int) := by omega
      clear er rn hrow hcell hgood
      have HRc := hide rcell
      clear rcell
      go_wp2_with (at_builtin; refine wpList_copy0 _ rfl (.tmp 42) (.tmp 47) 24 rfl 3 iI (.int .i64 0) Tryz.underlying24 HI0.out HI1.out HI2.out HI3.out rfl rfl _ _ row rfl ?row ?len ?K)
      case row => exact fun h0 => by obtain ⟨b', o', q1, _, q2⟩ := HRc.out h0; exact ⟨b', o', q1, q2⟩
      case len => omega
      case K =>
        intro w2 rp2 rc2 cb cpy
        have HCp := hide cpy
        have c12' : w2.cell? ⟨w1.heap.size, 12, none⟩ = some (.slice pc i cc) := by rw [cell_of (cpy.old _ hwr)]; exact c12
        have fz' : w2.frozen? ⟨w1.heap.size, 12, none⟩ = false := by rw [frozen_of (cpy.old _ hwr)]; exact fz12
        have hz2 := cpy.size
        have hw2 : w1.heap.size < w2.heap.size := by omega
        clear cpy
        go_wp2_with (at_builtin; refine wpList_put _ rfl (.tmp 53) (.tmp 55) 61 rfl 24 iS (.slice none 0 0) 24 Tryz.underlying61 HS0.out HS1.out HS2.out HS3.out rfl pc i cc Y.bc rfl ?L ?L0 ?cap ?cm ⟨_, 0, none⟩ 1 (.slice rp2 row.length rc2) rfl ?cc rfl ?b1 ?b2 ?K2)
        case L =>
          intro h0
          obtain ⟨q0, q1, cur, q2, q3⟩ := HCC.out h0
          have hlb : Y.bc < wr.heap.size := by
            rcases Nat.lt_or_ge Y.bc wr.heap.size with q | q
            · exact q
            · rw [Array.getElem?_eq_none q] at q2; cases q2
          exact ⟨q1, cur, by rw [Below.heap_alloc _ _ _ (by omega), HCp.out.old _ hlb]; exact q2, q3⟩
        case L0 => exact HC0.out
        case cap => exact hcap
        case cm => exact hcm
        case cc => simp [Addr.add]
        case b1 => unfold maxLen; omega
        case b2 => omega
        case K2 =>
          intro w3 bL' cL' ap
          have HAp := hide ap
          have hz3 := ap.size
          simp at hz3
          have hbl : bL' = Y.bc ∧ 0 < cc ∨ w2.heap.size + 1 ≤ bL' := by have := ap.bl; simpa using this
          have hne : w1.heap.size ≠ bL' := fun e => by
            rcases hbl with ⟨q, q0⟩ | q
            · obtain ⟨_, _, _, q2⟩ := HRR.out.classes
              have h7 := (q2 (by simp [Tm.newH]; have := (HCC.out q0).1; omega)).2.2
              rw [← q, ← e, HRR.out.tagA] at h7; simp at h7
            · omega
          have e3 : w3.heap[w1.heap.size]? = wr.heap[w1.heap.size]? := by rw [ap.old _ (by simp; omega) hne, Below.heap_alloc _ _ _ hw2, HCp.out.old _ hwr]
          have c12'' : w3.cell? ⟨w1.heap.size, 12, none⟩ = some (.slice pc i cc) := by rw [cell_of e3]; exact c12
          have fz'' : w3.frozen? ⟨w1.heap.size, 12, none⟩ = false := by rw [frozen_of e3]; exact fz12
          have HE3 := hide e3
          have HBL := hide hbl
          have HNe := hide hne
          clear ap e3 hbl hne
          go_wp2_with fail
          have hpc : PutC wr (w3.setCell ⟨w1.heap.size, 12, none⟩ (.slice (some ⟨bL', 0, none⟩) (i + 1) cL')) w1.heap.size Y.bc bL' cL' cb i rp2 rc2 row := by
            have oth : ∀ b, b ≠ w1.heap.size → (w3.setCell ⟨w1.heap.size, 12, none⟩ (.slice (some ⟨bL', 0, none⟩) (i + 1) cL')).heap[b]? = w3.heap[b]? := fun b hb => Below.heap_setCell _ _ _ _ (by simpa using hb)
            have old3 : ∀ b, b < w2.heap.size → b ≠ bL' → w3.heap[b]? = w2.heap[b]? := fun b h1 h2 => by rw [HAp.out.old b (by simp; omega) h2, Below.heap_alloc _ _ _ h1]
            have nbl : bL' ≠ w1.heap.size := fun e => HNe.out e.symm
            have hblw : ∀ q0 : 0 < cc, Y.bc < wr.heap.size := fun q0 => by
              obtain ⟨_, _, cur, q2, _⟩ := HCC.out q0
              rcases Nat.lt_or_ge Y.bc wr.heap.size with q | q
              · exact q
              · rw [Array.getElem?_eq_none q] at q2; cases q2
            refine ⟨by rw [World.size_setCell]; omega, fun b h1 h2 h3 => by rw [oth b h2, old3 b (by omega) h3]; exact HCp.out.old b h1, ?_, fun q hq => ?_, ?_, by rw [World.size_setCell]; exact HAp.out.lt, fun q hq => ?_, ?_, fun h0 => ?_, fun b q hb hf => ?_, fun q => ?_⟩
            · exact World.cell?_setCell_same _ _ _ c12''
            · rw [World.cell?_setCell_other _ _ _ _ (fun e => hq (congrArg Addr.off e).symm), cell_of HE3.out]
            · rcases HBL.out with ⟨q, q0⟩ | q
              · exact Or.inl ⟨q, (HCC.out q0).1⟩
              · exact Or.inr (by omega)
            · rw [cell_of (oth _ nbl), HAp.out.keep q hq]
              have q0 : 0 < cc := by omega
              rw [World.cell?_alloc_lt _ _ _ (by have := hblw q0; show Y.bc < _; omega), cell_of (HCp.out.old _ (hblw q0))]
            · rw [cell_of (oth _ nbl)]; exact HAp.out.last
            · obtain ⟨q1, q2, q3, q4, q5⟩ := HCp.out.row h0
              have ncb : cb ≠ bL' := fun e => by
                rcases HBL.out with ⟨z, z0⟩ | z
                · have := hblw z0; omega
                · omega
              have nca : cb ≠ w1.heap.size := by omega
              exact ⟨q1, q2, by rw [World.size_setCell]; omega, ncb, fun j => by rw [World.frozen?_setCell, frozen_of (old3 cb q3 ncb)]; exact q4 j, fun j hj => by rw [cell_of (oth _ nca), cell_of (old3 cb q3 ncb)]; exact q5 j hj⟩
            · rw [World.frozen?_setCell]
              by_cases e1 : b = bL'
              · subst e1
                obtain ⟨cur, z, _⟩ := HAp.out.block
                simp [World.frozen?, z]
              · rw [frozen_of (old3 b (by omega) e1), frozen_of (HCp.out.old b hb)]; exact hf
            · rw [World.frozen?_setCell]
              obtain ⟨cur, z, _⟩ := HAp.out.block
              simp [World.frozen?, z]
          have hci : (Tm.newH r ln gn kn (cl.take i)).classes.length = i := by simp [Tm.newH]; omega
          have rnew := HRR.out.addC rfl (bc' := bL') (cc' := cL') (cb := cb) (rc := rc2) (rp := rp2) (row := row) h8 (by rw [hci]; omega) (by rw [hci]; exact hpc)
          have hnh : addH (Tm.newH r ln gn kn (cl.take i)) row = Tm.newH r ln gn kn (cl.take (i + 1)) := by rw [HTk.out]; rfl
          rw [hnh] at rnew
          refine ⟨⟨i + 1, _, _, _, some ⟨bL', 0, none⟩, cL', by omega, by go_num, rnew, fun b' hb' => ?_, ?_, hpc.a12, fun _ => ⟨by omega, rfl, ?_⟩, (fun e => by have := HAp.out.cap; omega), HAp.out.cap, HAp.out.capm⟩, by simp [intOf]; omega⟩
          · rcases hb' with q | q | ⟨q, q0⟩
            · exact HSS.out b' q
            · rcases HBL.out with ⟨z, z0⟩ | z
              · obtain ⟨_, _, _, q2⟩ := HRR.out.classes
                rw [q, z]; exact HSS.out _ (q2 (by rw [hci]; exact (HCC.out z0).1)).2.1
              · omega
            · have := (HCp.out.row q0).2.1; omega
          · refine HBl.out.trans ⟨HAp.out.os.trans HCp.out.os, HAp.out.tape.trans HCp.out.tape, HAp.out.output.trans HCp.out.output, by rw [World.size_setCell]; omega, fun b' hb' => hpc.old b' (by omega) (by omega) (fun e => ?_)⟩
            rcases HBL.out with ⟨z, z0⟩ | z
            · obtain ⟨_, _, _, q2⟩ := HRR.out.classes
              have := HSS.out _ (q2 (by rw [hci]; exact (HCC.out z0).1)).2.1
              omega
            · omega
          · rw [show (addY Y bL' cb (Tm.newH r ln gn kn (cl.take i)).classes.length).bc = bL' from rfl, Below.heap_setCell _ _ _ _ (by have := HNe.out; simp; omega)]
            exact HAp.out.block
    · have bi : ¬ (i : Int) < (cl.length : Int) := by omega
      have ei : cl.take i = cl := List.take_of_length_le (by omega)
      have HRF : Hid (Rep S tag wr w1.heap.size Y (Tm.newH r ln gn kn cl)) := by
        have := HRR.out; rw [ei] at this; exact this
      clear ei
      go_wp2_with fail
      go_ret
      refine ⟨w1.heap.size, S, tag, Y, rfl, HRF.out, fun b hb => by have := HSS.out b hb; omega, ((Below.alloc0 _ _).trans (HB.out.mono (by simp))).trans (HBl.out.mono (by omega))⟩
end Go.Proofs.YtcnmfljpmpgnjaaGreatDoor
