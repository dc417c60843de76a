import Derived.Test.YtcnmfljpmpgnjaaGreatDoorJ25
namespace Go.Proofs.YtcnmfljpmpgnjaaGreatDoor
open Go.RowKit
open Tm (H Ob Sl Why)

theorem info4 : (Tryz.prog.info? 4).map (fun i => (i.zero, i.size, i.bytes)) = some (some (.bool false), 1, 1) := by kernel_rfl

structure Bools (w : World) (b : Nat) (M : List Bool) : Prop where
  cell : ∀ i, i < M.length → w.cell? ⟨b, i, none⟩ = some (.bool (M.getD i false))
  soft : ∀ i, w.frozen? ⟨b, i, none⟩ = false

theorem Bools.set {w : World} {b : Nat} {M : List Bool} (h : Bools w b M) (i : Nat) (hi : i < M.length) : Bools (w.setCell ⟨b, i, none⟩ (.bool true)) b (M.set i true) := by
  refine ⟨fun j hj => ?_, fun j => by rw [World.frozen?_setCell]; exact h.soft j⟩
  rw [List.length_set] at hj
  rw [Tm.getD_set _ _ _ _ _ hi]
  by_cases e : j = i
  · subst e; rw [if_pos rfl]; exact World.cell?_setCell_same _ _ _ (h.cell j hj)
  · rw [if_neg e, World.cell?_setCell_other _ _ _ _ (fun e2 => e (congrArg Addr.off e2).symm)]; exact h.cell j hj

theorem Bools.made (w : World) (n : Nat) (e : TypeId) : Bools (w.alloc (.cells (madeCells #[.bool false] n) e)) w.heap.size (List.replicate n false) := by
  refine ⟨fun i hi => ?_, fun i => World.frozen?_alloc_new w _ _ i⟩
  rw [World.cell?_alloc_new]
  simp only [List.length_replicate] at hi
  simp [madeCells, hi, Nat.mod_one]

/-- What holds of the marks all the while: they are as many as objects and one, and only what is reached is marked. -/
structure Marks (h : H) (w w' : World) (b : Nat) (M : List Bool) : Prop where
  bools : Bools w' b M
  below : Below b w w'
  size : w'.heap.size = b + 1
  len : M.length = h.l.length + 1
  sound : ∀ i, i < M.length → M.getD i false = true → Tm.Reach h i

theorem Marks.set {h : H} {w w' : World} {b : Nat} {M : List Bool} (m : Marks h w w' b M) (i : Nat) (hi : i < M.length) (hr : Tm.Reach h i) : Marks h w (w'.setCell ⟨b, i, none⟩ (.bool true)) b (M.set i true) := by
  refine ⟨m.bools.set i hi, m.below.setCell (Nat.le_refl _) _, by rw [World.size_setCell]; exact m.size, by rw [List.length_set]; exact m.len, fun j hj hm => ?_⟩
  rw [List.length_set] at hj
  rw [Tm.getD_set _ _ _ _ _ hi] at hm
  by_cases e : j = i
  · subst e; exact hr
  · rw [if_neg e] at hm; exact m.sound j hj hm

def boolOf : Value → Bool | .bool b => b | _ => false
def readM (w : World) (b n : Nat) : List Bool := (List.range n).map fun i => boolOf ((w.cell? ⟨b, i, none⟩).getD undef)
theorem Bools.read {w : World} {b : Nat} {M : List Bool} (h : Bools w b M) (n : Nat) (hn : M.length = n) : readM w b n = M := by
  subst hn
  apply List.ext_getElem
  · simp [readM]
  · intro i h1 h2
    simp only [readM, List.getElem_map, List.getElem_range]
    rw [h.cell i h2]
    simp [boolOf, List.getD_eq_getElem?_getD, List.getElem?_eq_getElem h2]

def EC (h : H) (M : List Bool) (j q : Nat) : Prop :=
  M.getD (j + 1) false = true → (h.l.getD j Tm.ob0).kinds.getD q 0 = 2 → (h.l.getD j Tm.ob0).vals.getD q 0 ≠ 0 → M.getD ((h.l.getD j Tm.ob0).vals.getD q 0).toNat false = true

theorem closed_of_EC {h : H} {M : List Bool} (hc : ∀ j q, j < h.l.length → q < (h.l.getD j Tm.ob0).kinds.length → EC h M j q) : ∀ m n, M.getD m false = true → Tm.Edge h m n → M.getD n false = true := by
  rintro m n hm ⟨j, q, hj, rfl, hq, hk, hv, hn⟩
  have := hc j q hj hq hm hk (by rw [hv]; omega)
  rw [hv, Int.toNat_natCast] at this
  exact this

theorem roots_of {h : H} {M : List Bool} (h1 : ∀ t i, 0 < t → t < 3 → i < (h.t t).length → M.getD (h.sl t i).ob.toNat false = true)
    (h2 : ∀ j, j < h.l.length → 0 < (h.l.getD j Tm.ob0).pins → (h.l.getD j Tm.ob0).gone = false → M.getD (j + 1) false = true) : ∀ n, Tm.Root h n → M.getD n false = true := by
  rintro n (⟨k, i, hk, hi, ho⟩ | ⟨j, hj, rfl, hp, hg⟩)
  · have := h1 k i (by omega) (by omega) hi
    rw [ho, Int.toNat_natCast] at this
    exact this
  · exact h2 j hj hp hg

set_option maxRecDepth 100000 in
set_option maxHeartbeats 4000000 in
theorem reached_any {S : Nat → Prop} {tag : Nat → Nat × Nat} {w : World} {a : Nat} {Y : Lay} {h : H} (r : Rep S tag w a Y h) :
    Calls Tryz.prog 137 #[.pointer (some ⟨a, 0, none⟩)] w fun e w' => e = .returned (.slice (some ⟨w.heap.size, 0, none⟩) (h.l.length + 1) (h.l.length + 1)) ∧
      ∃ M, Marks h w w' w.heap.size M ∧ (∀ n, Tm.Root h n → M.getD n false = true) ∧ (∀ m n, M.getD m false = true → Tm.Edge h m n → M.getD n false = true) := by
  have c5 := r.list
  have hm := r.many
  obtain ⟨i4, hi4, hz0, hz1, hz2⟩ := info_parts info4
  have hmk : (Instr.makeSlice 40 (.int .i64 ((h.l.length : Int) + 1)) (.int .i64 ((h.l.length : Int) + 1))).run Tryz.prog w = .ok (.slice (some ⟨w.heap.size, 0, none⟩) (h.l.length + 1) (h.l.length + 1)) (w.alloc (.cells (madeCells #[.bool false] (h.l.length + 1)) 4)) := by
    have := run_make (P := Tryz.prog) w 40 4 i4 _ Tryz.underlying40 hi4 hz0 .i64 .i64 ((h.l.length : Int) + 1) ((h.l.length : Int) + 1) (by omega) (by omega) (by rw [hz2]; omega) (by omega)
    rw [hz1, Nat.mul_one, show ((h.l.length : Int) + 1).toNat = h.l.length + 1 from by omega] at this
    exact this
  have m0 : Marks h w (w.alloc (.cells (madeCells #[.bool false] (h.l.length + 1)) 4)) w.heap.size (List.replicate (h.l.length + 1) false) :=
    ⟨Bools.made _ _ _, Below.alloc0 _ _, by simp, by simp, fun i hi hm => by simp [List.getD_eq_getElem?_getD, List.getElem?_replicate] at hm; split at hm <;> simp at hm⟩
  have HM0 := hide m0
  clear m0 hi4 hz0 hz1 hz2
  go_enter Tryz.func137, Tryz.ntmps137
  go_wp2_with fail
  have HRep := hide r
  have ht1 := r.tabs.tab 1 (by omega) (by omega)
  have ht2 := r.tabs.tab 2 (by omega) (by omega)
  clear r
  go_loopw [4] (fun k w' => ∃ k' : Nat, ∃ M, 1 ≤ k' ∧ k' ≤ 3 ∧ k = .int .i64 k' ∧ Marks h w w' w.heap.size M ∧ (∀ t i, 0 < t → t < k' → i < (h.t t).length → M.getD (h.sl t i).ob.toNat false = true)) (fun k _ => 3 - (intOf k).toNat)
  case atStart => exact ⟨1, _, by omega, by omega, rfl, HM0.out, fun t i h0 h1 _ => by omega⟩
  case round =>
    obtain ⟨k, M, hk1, hk3, rfl, HM, hroots⟩ := hrel
    have HMh := hide HM
    have HRo := hide hroots
    clear HM hroots
    by_cases hlt : k ≤ 2
    · have b1 : (k : Int) ≤ 2 := by omega
      go_wp2_with fail
      go_loopw [5] (fun i w' => ∃ i' : Nat, ∃ M, i' ≤ (h.t k).length ∧ i = .int .i64 i' ∧ Marks h w w' w.heap.size M ∧ (∀ t i, 0 < t → t < k → i < (h.t t).length → M.getD (h.sl t i).ob.toNat false = true) ∧ (∀ i, i < i' → M.getD (h.sl k i).ob.toNat false = true)) (fun i _ => (h.t k).length - (intOf i).toNat)
      case atStart => exact ⟨0, M, by omega, rfl, HMh.out, HRo.out, fun i hi => by omega⟩
      case round =>
        obtain ⟨i, M2, hi, rfl, HM2, hr1, hr2⟩ := hrel
        have rr := HRep.out.below HM2.below (Nat.le_refl _)
        have tb := rr.tabs.tab k (by omega) (by omega)
        obtain ⟨hcap, hh⟩ := tb.head
        have hl := tb.len
        have HMh2 := hide HM2
        have HR1 := hide hr1
        have HR2 := hide hr2
        have HTb := hide tb
        have HRR := hide rr
        clear HM2 hr1 hr2 tb rr
        have bk : (k : Int) < 4 := by omega
        by_cases hlt2 : i < (h.t k).length
        · have b2 : (i : Int) < ((h.t k).length : Int) := by omega
          have co := HTb.out.ob i hlt2
          have wf := HRR.out.wf k i hlt2
          obtain ⟨o, ho⟩ := Int.eq_ofNat_of_zero_le wf.1
          unfold H.sl at wf ho
          rw [ho] at co wf
          have cb := HMh2.out.bools.cell o (by have := HMh2.out.len; omega)
          have fb := HMh2.out.bools.soft o
          have b3 : (o : Int) < (h.l.length : Int) + 1 := by omega
          go_wp2_with fail
          refine ⟨⟨i + 1, M2.set o true, by omega, by go_num, HMh2.out.set o (by have := HMh2.out.len; omega) (Tm.Reach.root (Or.inl ⟨k, i, by omega, hlt2, ho⟩)), fun t i' h0 h1 h2 => Tm.getD_set_true _ _ _ (HR1.out t i' h0 h1 h2), fun i' hi' => ?_⟩, by simp [intOf]; omega⟩
          by_cases e : i' = i
          · subst e
            unfold H.sl
            rw [ho, Int.toNat_natCast, Tm.getD_set _ _ _ _ _ (by have := HMh2.out.len; omega), if_pos rfl]
          · exact Tm.getD_set_true _ _ _ (HR2.out i' (by omega))
        · have b2 : ¬ (i : Int) < ((h.t k).length : Int) := by omega
          go_wp2_with fail
          refine ⟨⟨k + 1, M2, by omega, by omega, by go_num, HMh2.out, fun t i' h0 h1 h2 => ?_⟩, by simp [intOf]; omega⟩
          by_cases e : t = k
          · subst e; exact HR2.out i' (by omega)
          · exact HR1.out t i' h0 (by omega) h2
    · have b1 : ¬ (k : Int) ≤ 2 := by omega
      have hk : k = 3 := by omega
      subst hk
      go_wp2_with fail
      go_loopw [6] (fun i w' => ∃ j : Nat, ∃ M, j ≤ h.l.length ∧ i = .int .i64 j ∧ Marks h w w' w.heap.size M ∧ (∀ t i, 0 < t → t < 3 → i < (h.t t).length → M.getD (h.sl t i).ob.toNat false = true) ∧ (∀ q, q < j → 0 < (h.l.getD q Tm.ob0).pins → (h.l.getD q Tm.ob0).gone = false → M.getD (q + 1) false = true)) (fun i _ => h.l.length - (intOf i).toNat)
      case atStart => exact ⟨0, M, by omega, rfl, HMh.out, HRo.out, fun q hq => by omega⟩
      case round =>
        obtain ⟨j, M2, hj, rfl, HM2, hr1, hr2⟩ := hrel
        have rr := HRep.out.below HM2.below (Nat.le_refl _)
        have HMh2 := hide HM2
        have HR1 := hide hr1
        have HR2 := hide hr2
        have HRR := hide rr
        clear HM2 hr1 hr2 rr
        by_cases hlt2 : j < h.l.length
        · obtain ⟨c5', cp, ho⟩ := HRR.out.objJ j hlt2
          have cpin := ho.pins
          have cg := ho.gone
          have bj : (j : Int) < (h.l.length : Int) := by omega
          have HS2 : Hid (∀ q, q < j + 1 → q ≠ j → 0 < (h.l.getD q Tm.ob0).pins → (h.l.getD q Tm.ob0).gone = false → M2.getD (q + 1) false = true) := fun q h1 h2 => HR2.out q (by omega)
          have HRt : Hid (0 < (h.l.getD j Tm.ob0).pins → (h.l.getD j Tm.ob0).gone = false → Tm.Reach h (j + 1)) := fun h1 h2 => Tm.Reach.root (Or.inr ⟨j, hlt2, rfl, h1, h2⟩)
          clear ho
          obtain ⟨o, eo⟩ : ∃ o, h.l.getD j Tm.ob0 = o := ⟨_, rfl⟩
          rw [eo] at cpin cg
          have EO := hide eo
          clear eo
          by_cases hp : 0 < o.pins
          · cases hg : o.gone
            · rw [hg] at cg
              have cb := HMh2.out.bools.cell (j + 1) (by have := HMh2.out.len; omega)
              have fb := HMh2.out.bools.soft (j + 1)
              go_wp2_with fail
              refine ⟨⟨j + 1, M2.set (j + 1) true, by omega, by go_num, HMh2.out.set (j + 1) (by have := HMh2.out.len; omega) (HRt.out (by rw [EO.out]; exact hp) (by rw [EO.out]; exact hg)), fun t i' h0 h1 h2 => Tm.getD_set_true _ _ _ (HR1.out t i' h0 h1 h2), fun q hq h1 h2 => ?_⟩, by simp [intOf]; omega⟩
              by_cases e : q = j
              · subst e
                rw [Tm.getD_set _ _ _ _ _ (by have := HMh2.out.len; omega), if_pos rfl]
              · exact Tm.getD_set_true _ _ _ (HS2.out q hq e h1 h2)
            · rw [hg] at cg
              go_wp2_with fail
              refine ⟨⟨j + 1, M2, by omega, by go_num, HMh2.out, HR1.out, fun q hq h1 h2 => ?_⟩, by simp [intOf]; omega⟩
              by_cases e : q = j
              · subst e; rw [EO.out, hg] at h2; cases h2
              · exact HS2.out q hq e h1 h2
          · have hp' : decide (0 < o.pins) = false := by simpa using hp
            go_wp2_with fail
            refine ⟨⟨j + 1, M2, by omega, by go_num, HMh2.out, HR1.out, fun q hq h1 h2 => ?_⟩, by simp [intOf]; omega⟩
            by_cases e : q = j
            · subst e; rw [EO.out] at h1; exact absurd h1 hp
            · exact HS2.out q hq e h1 h2
        · have bj : ¬ (j : Int) < (h.l.length : Int) := by omega
          have c5' := HRR.out.list
          have HRoots := hide (roots_of HR1.out fun q hq => HR2.out q (by omega))
          go_wp2_with fail
          go_loopw [7] (fun m w' => ∃ more M, m = .bool more ∧ Marks h w w' w.heap.size M ∧ (∀ n, Tm.Root h n → M.getD n false = true) ∧ (more = false → ∀ j q, j < h.l.length → q < (h.l.getD j Tm.ob0).kinds.length → EC h M j q)) (fun m w' => 2 * Tm.cf (readM w' w.heap.size (h.l.length + 1)) + (if boolOf m then 1 else 0))
          case atStart => exact ⟨true, M2, rfl, HMh2.out, HRoots.out, fun h => by cases h⟩
          case round =>
            clear HRoots HR1 HR2 HMh2 HRR c5' HRo HMh HM0
            obtain ⟨more, M0, rfl, HM0, hr1, hr2⟩ := hrel
            have HMh0 := hide HM0
            have HR1 := hide hr1
            have HR2 := hide hr2
            clear HM0 hr1 hr2
            cases more
            · go_wp2_with fail
              go_ret
              exact ⟨rfl, M0, HMh0.out, HR1.out, closed_of_EC (HR2.out (by simp))⟩
            · clear HR2
              go_wp2_with fail
              go_loopw [7, 8] (fun m iv w' => ∃ more M, ∃ j : Nat, m = .bool more ∧ iv = .int .i64 j ∧ j ≤ h.l.length ∧ Marks h w w' w.heap.size M ∧ (∀ n, Tm.Root h n → M.getD n false = true) ∧ Tm.cf M ≤ Tm.cf M0 ∧ (more = true → Tm.cf M < Tm.cf M0) ∧ (more = false → ∀ j' q, j' < j → q < (h.l.getD j' Tm.ob0).kinds.length → EC h M j' q)) (fun _ iv _ => h.l.length - (intOf iv).toNat)
              case atStart => exact ⟨false, M0, 0, rfl, rfl, by omega, HMh0.out, HR1.out, Nat.le_refl _, (fun h => by cases h), fun _ j' q hj' => by omega⟩
              case round =>
                clear HR1
                obtain ⟨more, M1, j1, rfl, rfl, hj1, HM1, hr1, hle, hmo, hcl⟩ := hrel
                have rr := HRep.out.below HM1.below (Nat.le_refl _)
                have HMh1 := hide HM1
                have HR1 := hide hr1
                have HLe := hide hle
                have HMo := hide hmo
                have HCl := hide hcl
                have HRR := hide rr
                clear HM1 hr1 hle hmo hcl rr
                by_cases hlt3 : j1 < h.l.length
                · obtain ⟨c5', cp, ho⟩ := HRR.out.objJ j1 hlt3
                  have bj1 : (j1 : Int) < (h.l.length : Int) := by omega
                  have HE1 : Hid (more = false → ∀ j' q, j' < j1 → q < (h.l.getD j' Tm.ob0).kinds.length → EC h M1 j' q) := HCl.out
                  clear ho HCl
                  go_wp2_with fail
                  go_loopw [7, 10] (fun m kv w' => ∃ more M, ∃ q : Nat, m = .bool more ∧ kv = .int .i64 q ∧ q ≤ (h.l.getD j1 Tm.ob0).kinds.length ∧ Marks h w w' w.heap.size M ∧ (∀ n, Tm.Root h n → M.getD n false = true) ∧ Tm.cf M ≤ Tm.cf M0 ∧ (more = true → Tm.cf M < Tm.cf M0) ∧ (more = false → ∀ j' q', j' < j1 → q' < (h.l.getD j' Tm.ob0).kinds.length → EC h M j' q') ∧ (more = false → ∀ q', q' < q → EC h M j1 q')) (fun _ kv _ => (h.l.getD j1 Tm.ob0).kinds.length - (intOf kv).toNat)
                  case atStart => exact ⟨more, M1, 0, rfl, rfl, by omega, HMh1.out, HR1.out, HLe.out, HMo.out, HE1.out, fun _ q' hq' => by omega⟩
                  case round =>
                    clear HR1 HLe HMo HE1 HMh1 HRR c5' cp
                    obtain ⟨more2, M2, q, rfl, rfl, hq, HM2, hr1, hle, hmo, hc1, hc2⟩ := hrel
                    have rr := HRep.out.below HM2.below (Nat.le_refl _)
                    have HMh2 := hide HM2
                    have HR1 := hide hr1
                    have HLe := hide hle
                    have HMo := hide hmo
                    have HC1 := hide hc1
                    have HC2 := hide hc2
                    obtain ⟨c5', cp, ho⟩ := rr.objJ j1 hlt3
                    have HRf := hide (fun hq hk => rr.refs j1 q hlt3 hq hk)
                    have hol := ho.len
                    have hoe := ho.eq
                    have hov := ho.vals
                    have hok := ho.kinds
                    clear HM2 hr1 hle hmo hc1 hc2 rr ho
                    have HN : Hid (∀ M, (∀ q', q' < q → EC h M j1 q') → EC h M j1 q → ∀ q', q' < q + 1 → EC h M j1 q') := fun M h1 h2 q' hq' => by
                      by_cases e : q' = q
                      · subst e; exact h2
                      · exact h1 q' (by omega)
                    obtain ⟨o, eo⟩ : ∃ o, h.l.getD j1 Tm.ob0 = o := ⟨_, rfl⟩
                    rw [eo] at hq hol hoe hov hok HRf ⊢
                    have HEC : Hid (∀ M, EC h M j1 q = (M.getD (j1 + 1) false = true → o.kinds.getD q 0 = 2 → o.vals.getD q 0 ≠ 0 → M.getD (o.vals.getD q 0).toNat false = true)) := fun M => by unfold EC; rw [eo]
                    have EO := hide eo
                    clear eo
                    obtain ⟨kv, ck, kp, kc, rfl, hkp, hkc⟩ := hok
                    obtain ⟨vv, cv, vp, vc, rfl, hvp, hvc⟩ := hov
                    by_cases hlt4 : q < o.kinds.length
                    · obtain ⟨rfl, _⟩ := hkp (by omega)
                      obtain ⟨rfl, _⟩ := hvp (by omega)
                      have ckq := hkc q hlt4
                      have cvq := hvc q (by omega)
                      have bq : (q : Int) < (o.kinds.length : Int) := by omega
                      have bv : (q : Int) < (o.vals.length : Int) := by omega
                      have cm := HMh2.out.bools.cell (j1 + 1) (by have := HMh2.out.len; omega)
                      clear hkc hvc hkp hvp
                      have HEnd : Hid (EC h M2 j1 q → (∃ more M, ∃ q' : Nat, Value.bool more2 = .bool more ∧ Value.int .i64 ((q : Int) + 1) = .int .i64 q' ∧ q' ≤ o.kinds.length ∧ Marks h w wr w.heap.size M ∧ (∀ n, Tm.Root h n → M.getD n false = true) ∧ Tm.cf M ≤ Tm.cf M0 ∧ (more = true → Tm.cf M < Tm.cf M0) ∧ (more = false → ∀ j' q', j' < j1 → q' < (h.l.getD j' Tm.ob0).kinds.length → EC h M j' q') ∧ (more = false → ∀ q'', q'' < q' → EC h M j1 q''))) := fun hec =>
                        ⟨more2, M2, q + 1, rfl, by go_num, by omega, HMh2.out, HR1.out, HLe.out, HMo.out, HC1.out, fun hm => HN.out M2 (HC2.out hm) hec⟩
                      cases hmm : M2.getD (j1 + 1) false
                      · rw [hmm] at cm
                        go_wp2_with fail
                        exact ⟨HEnd.out (by rw [HEC.out]; intro h1; rw [hmm] at h1; cases h1), by simp [intOf]; omega⟩
                      · rw [hmm] at cm
                        obtain ⟨kq, ekq⟩ : ∃ x, o.kinds.getD q 0 = x := ⟨_, rfl⟩
                        rw [ekq] at ckq HRf
                        have EK := hide ekq
                        clear ekq
                        by_cases hk2 : kq = 2
                        · subst hk2
                          have hrf := HRf.out hlt4 (by simp)
                          obtain ⟨vq, evq⟩ := Int.eq_ofNat_of_zero_le hrf.1
                          rw [evq] at cvq hrf
                          have EV := hide evq
                          clear evq
                          by_cases hv0 : vq = 0
                          · subst hv0
                            go_wp2_with fail
                            exact ⟨HEnd.out (by rw [HEC.out, EV.out]; intro _ _ h1; simp at h1), by simp [intOf]; omega⟩
                          · have hv0' : ((vq : Int) != 0) = true := by simpa using hv0
                            have cw := HMh2.out.bools.cell vq (by have := HMh2.out.len; omega)
                            have fw := HMh2.out.bools.soft vq
                            have bw : (vq : Int) < (h.l.length : Int) + 1 := by omega
                            cases hmv : M2.getD vq false
                            · rw [hmv] at cw
                              have hx := Tm.cf_set_lt M2 vq (by have := HMh2.out.len; omega) hmv
                              have HX := hide hx
                              clear hx
                              go_wp2_with fail
                              refine ⟨⟨true, M2.set vq true, q + 1, rfl, by go_num, by omega, HMh2.out.set vq (by have := HMh2.out.len; omega) ?_, fun n hn => Tm.getD_set_true _ _ _ (HR1.out n hn), by have := HX.out; have := HLe.out; omega, fun _ => by have := HX.out; have := HLe.out; omega, (fun hm => by cases hm), (fun hm => by cases hm)⟩, by simp [intOf]; omega⟩
                              refine Tm.Reach.edge (HMh2.out.sound (j1 + 1) (by have := HMh2.out.len; omega) hmm) ⟨j1, q, hlt3, rfl, by rw [EO.out]; exact hlt4, by rw [EO.out]; exact EK.out, by rw [EO.out]; exact EV.out, hv0⟩
                            · rw [hmv] at cw
                              go_wp2_with fail
                              exact ⟨HEnd.out (by rw [HEC.out, EV.out, Int.toNat_natCast]; intro _ _ _; exact hmv), by simp [intOf]; omega⟩
                        · have hk2' : (kq == 2) = false := by simpa using hk2
                          go_wp2_with fail
                          exact ⟨HEnd.out (by rw [HEC.out, EK.out]; intro _ h1; exact absurd h1 hk2), by simp [intOf]; omega⟩
                    · have bq : ¬ (q : Int) < (o.kinds.length : Int) := by omega
                      go_wp2_with fail
                      exact ⟨⟨more2, M2, j1 + 1, rfl, by go_num, by omega, HMh2.out, HR1.out, HLe.out, HMo.out, fun hm j' q' hj' hq' => by
                        by_cases e : j' = j1
                        · subst e; rw [EO.out] at hq'; exact HC2.out hm q' (by omega)
                        · exact HC1.out hm j' q' (by omega) hq'⟩, by simp [intOf]; omega⟩
                · have bj1 : ¬ (j1 : Int) < (h.l.length : Int) := by omega
                  have c5' := HRR.out.list
                  go_wp2_with fail
                  refine ⟨⟨more, M1, rfl, HMh1.out, HR1.out, fun hmf j' q hj' hq => HCl.out hmf j' q (by omega) hq⟩, ?_⟩
                  rw [HMh1.out.bools.read _ HMh1.out.len, HMh0.out.bools.read _ HMh0.out.len]
                  have := HLe.out
                  cases more
                  · simp [boolOf]; omega
                  · have := HMo.out (by simp)
                    simp [boolOf]; omega
end Go.Proofs.YtcnmfljpmpgnjaaGreatDoor
