import Derived.Test.YtcnmfljpmpgnjaaGreatDoorJ31
import Derived.Test.YtcnmfljpmpgnjaaGreatDoorJ19
import Derived.Test.YtcnmfljpmpgnjaaGreatDoorJ00
namespace Go.Proofs.YtcnmfljpmpgnjaaGreatDoor
open Go.RowKit
open Tm (H Ob Sl Why)

def statsV (h : H) : Value := .agg #[.int .i64 (Tm.countOf h.l), .int .i64 (Tm.roomOf h.l), .int .i64 (Tm.takenOf (h.t 1)), .int .i64 (Tm.takenOf (h.t 2)), .int .i64 (Tm.takenOf (h.t 3)), .int .i64 (h.frames)]

theorem countOf_bd (l : List Ob) (k : Nat) (h : k ≤ l.length) : 0 ≤ Tm.countOf (l.take k) ∧ Tm.countOf (l.take k) ≤ (k : Int) := by
  induction k with
  | zero => simp [Tm.countOf]
  | succ k ih =>
    have := ih (by omega)
    rw [Tm.take_getD l Tm.ob0 k (by omega), Tm.countOf_append]
    simp only [Tm.countOf]
    split <;> omega
theorem takenOf_bd (l : List Sl) (k : Nat) (h : k ≤ l.length) : 0 ≤ Tm.takenOf (l.take k) ∧ Tm.takenOf (l.take k) ≤ (k : Int) := by
  induction k with
  | zero => simp [Tm.takenOf]
  | succ k ih =>
    have := ih (by omega)
    rw [Tm.take_getD l Tm.sl0 k (by omega), Tm.takenOf_append]
    simp only [Tm.takenOf]
    split <;> omega

set_option maxRecDepth 100000 in
set_option maxHeartbeats 4000000 in
theorem stats_any {S : Nat → Prop} {tag : Nat → Nat × Nat} {w : World} {a : Nat} {Y : Lay} {h : H} (r : Rep S tag w a Y h) :
    Calls Tryz.prog 108 #[.pointer (some ⟨a, 0, none⟩)] w fun e w' => e = .returned (statsV h) ∧ Below w.heap.size w w' := by
  have HR := hide (fun o o' => (r.alloc o).alloc o')
  have hm := r.many
  have HRo := fun o o' => hide (room_any ((r.alloc o).alloc o'))
  have HFr := r.fr
  have HH : Hid (∀ k, 0 < k → k < 4 → ∃ c, ∀ o o', ((w.alloc o).alloc o').cell? ⟨a, 6 + k, none⟩ = some (.slice (some ⟨Y.bt k, 0, none⟩) (h.t k).length c)) := fun k k0 k4 => by
    obtain ⟨c, hc⟩ := (r.tabs.tab k k0 k4).head
    have la := r.lt a r.tabs.sa
    exact ⟨c, fun o o' => by rw [World.cell?_alloc_lt _ _ _ (by show a < (w.alloc o).heap.size; simp; omega), World.cell?_alloc_lt _ _ _ (by exact la)]; exact hc⟩
  clear r
  go_enter Tryz.func108, Tryz.ntmps108
  go_wp2_with fail
  go_loopw [4] (fun iv w' => ∃ j : Nat, j ≤ h.l.length ∧ iv = .int .i64 j ∧ w' = ((w.alloc (.cells #[.int .i64 (0), .int .i64 (0), .int .i64 (0), .int .i64 (0), .int .i64 (0), .int .i64 (0)] 44)).alloc (.cells #[.int .i64 (Tm.countOf (h.l.take j)), .int .i64 (0), .int .i64 (0), .int .i64 (0), .int .i64 (0), .int .i64 (0)] 44))) (fun iv _ => h.l.length - (intOf iv).toNat)
  case atStart => exact ⟨0, by omega, rfl, rfl⟩
  case round =>
    obtain ⟨j, hj, rfl, rfl⟩ := hrel
    have hb := countOf_bd h.l j hj
    by_cases hlt : j < h.l.length
    · have q := fun o o' => (HR.out o o').objJ j hlt
      have c5 := fun o o' => (q o o').1
      have cp := fun o o' => (q o o').2.1
      have cg := fun o o' => (q o o').2.2.gone
      have bj : (j : Int) < (h.l.length : Int) := by omega
      have HS := hide (Tm.take_getD h.l Tm.ob0 j hlt)
      clear q
      obtain ⟨o, eo⟩ : ∃ o, h.l.getD j Tm.ob0 = o := ⟨_, rfl⟩
      simp only [eo] at cg HS
      clear eo
      generalize hcn : Tm.countOf (h.l.take j) = cn at *
      have HCN := hide hcn
      clear hcn
      cases hg : o.gone
      · simp only [hg] at cg
        have HSt : Hid (Tm.countOf (h.l.take (j + 1)) = cn + 1) := by show _ = _; rw [HS.out, Tm.countOf_append, HCN.out]; simp [Tm.countOf, hg]
        go_wp2_with fail
        exact ⟨⟨j + 1, by omega, by go_num, by rw [HSt.out]⟩, by simp [intOf]; omega⟩
      · simp only [hg] at cg
        have HSt : Hid (Tm.countOf (h.l.take (j + 1)) = cn) := by show _ = _; rw [HS.out, Tm.countOf_append, HCN.out]; simp [Tm.countOf, hg]
        go_wp2_with fail
        exact ⟨⟨j + 1, by omega, by go_num, by rw [HSt.out]⟩, by simp [intOf]; omega⟩
    · have c5 := fun o o' => (HR.out o o').list
      have bj : ¬ (j : Int) < (h.l.length : Int) := by omega
      have ej : h.l.take j = h.l := List.take_of_length_le (by omega)
      rw [ej] at hb ⊢
      clear ej
      generalize ecn : Tm.countOf h.l = cn at *
      have HEC := hide ecn
      clear ecn
      go_wp2_with fail
      refine ((HRo _ _).out).mono ?_
      rintro e w' ⟨rfl, rfl⟩
      go_wp2_with fail
      generalize erm : Tm.roomOf h.l = rm at *
      have HER := hide erm
      clear erm
      go_loopw [5] (fun kv w' => ∃ k : Nat, 1 ≤ k ∧ k ≤ 4 ∧ kv = .int .i64 k ∧ w' = ((w.alloc (.cells #[.int .i64 (0), .int .i64 (0), .int .i64 (0), .int .i64 (0), .int .i64 (0), .int .i64 (0)] 44)).alloc (.cells #[.int .i64 (cn), .int .i64 (rm), .int .i64 (if 1 < k then Tm.takenOf (h.t 1) else 0), .int .i64 (if 2 < k then Tm.takenOf (h.t 2) else 0), .int .i64 (if 3 < k then Tm.takenOf (h.t 3) else 0), .int .i64 (0)] 44))) (fun kv _ => 4 - (intOf kv).toNat)
      case atStart => exact ⟨1, by omega, by omega, rfl, rfl⟩
      case round =>
        obtain ⟨k, hk1, hk4, rfl, rfl⟩ := hrel
        have hk : k = 1 ∨ k = 2 ∨ k = 3 ∨ k = 4 := by omega
        rcases hk with rfl | rfl | rfl | rfl
        · simp only [show (1 : Nat) < 1 ↔ False from by decide, show (2 : Nat) < 1 ↔ False from by decide, show (3 : Nat) < 1 ↔ False from by decide, if_false]
          have ht := fun o o' => (HR.out o o').tabs.tab 1 (by omega) (by omega)
          obtain ⟨hcap, hh⟩ := HH.out 1 (by omega) (by omega)
          have hl := (ht default default).len
          have bb : ∀ i, i ≤ (h.t 1).length → 0 ≤ Tm.takenOf ((h.t 1).take i) ∧ Tm.takenOf ((h.t 1).take i) ≤ (i : Int) := fun i hi => takenOf_bd _ i hi
          have HBB := hide bb
          have HTt := hide ht
          clear bb ht
          go_wp2_with fail
          go_loopw [6] (fun iv w' => ∃ i : Nat, i ≤ (h.t 1).length ∧ iv = .int .i64 i ∧ w' = ((w.alloc (.cells #[.int .i64 (0), .int .i64 (0), .int .i64 (0), .int .i64 (0), .int .i64 (0), .int .i64 (0)] 44)).alloc (.cells #[.int .i64 (cn), .int .i64 (rm), .int .i64 (Tm.takenOf ((h.t 1).take i)), .int .i64 (0), .int .i64 (0), .int .i64 (0)] 44))) (fun iv _ => (h.t 1).length - (intOf iv).toNat)
          case atStart => exact ⟨0, by omega, rfl, rfl⟩
          case round =>
            obtain ⟨i, hi, rfl, rfl⟩ := hrel
            have hbi := HBB.out i hi
            by_cases hlt2 : i < (h.t 1).length
            · have bi : (i : Int) < ((h.t 1).length : Int) := by omega
              have co := fun o o' => (HTt.out o o').ob i hlt2
              have HS := hide (Tm.take_getD (h.t 1) Tm.sl0 i hlt2)
              obtain ⟨s, es⟩ : ∃ s, (h.t 1).getD i Tm.sl0 = s := ⟨_, rfl⟩
              simp only [es] at co HS
              clear es
              generalize htn : Tm.takenOf ((h.t 1).take i) = tn at *
              have HTN := hide htn
              clear htn
              by_cases ho : s.ob = 0
              · have ho' : (s.ob != 0) = false := by simpa using ho
                have HSt : Hid (Tm.takenOf ((h.t 1).take (i + 1)) = tn) := by show _ = _; rw [HS.out, Tm.takenOf_append, HTN.out]; simp [Tm.takenOf, ho]
                go_wp2_with fail
                exact ⟨⟨i + 1, by omega, by go_num, by rw [HSt.out]⟩, by simp [intOf]; omega⟩
              · have ho' : (s.ob != 0) = true := by simpa using ho
                have HSt : Hid (Tm.takenOf ((h.t 1).take (i + 1)) = tn + 1) := by show _ = _; rw [HS.out, Tm.takenOf_append, HTN.out]; simp [Tm.takenOf, ho]
                go_wp2_with fail
                exact ⟨⟨i + 1, by omega, by go_num, by rw [HSt.out]⟩, by simp [intOf]; omega⟩
            · have bi : ¬ (i : Int) < ((h.t 1).length : Int) := by omega
              have ei : (h.t 1).take i = h.t 1 := List.take_of_length_le (by omega)
              rw [ei] at hbi ⊢
              clear ei
              go_wp2_with fail
              exact ⟨⟨1 + 1, by omega, by omega, by go_num, by simp⟩, by simp [intOf]⟩
        · simp only [show (1 : Nat) < 2 ↔ True from by decide, show (2 : Nat) < 2 ↔ False from by decide, show (3 : Nat) < 2 ↔ False from by decide, if_true, if_false]
          have ht := fun o o' => (HR.out o o').tabs.tab 2 (by omega) (by omega)
          obtain ⟨hcap, hh⟩ := HH.out 2 (by omega) (by omega)
          have hl := (ht default default).len
          have bb : ∀ i, i ≤ (h.t 2).length → 0 ≤ Tm.takenOf ((h.t 2).take i) ∧ Tm.takenOf ((h.t 2).take i) ≤ (i : Int) := fun i hi => takenOf_bd _ i hi
          have HBB := hide bb
          have HTt := hide ht
          clear bb ht
          go_wp2_with fail
          go_loopw [6] (fun iv w' => ∃ i : Nat, i ≤ (h.t 2).length ∧ iv = .int .i64 i ∧ w' = ((w.alloc (.cells #[.int .i64 (0), .int .i64 (0), .int .i64 (0), .int .i64 (0), .int .i64 (0), .int .i64 (0)] 44)).alloc (.cells #[.int .i64 (cn), .int .i64 (rm), .int .i64 (Tm.takenOf (h.t 1)), .int .i64 (Tm.takenOf ((h.t 2).take i)), .int .i64 (0), .int .i64 (0)] 44))) (fun iv _ => (h.t 2).length - (intOf iv).toNat)
          case atStart => exact ⟨0, by omega, rfl, rfl⟩
          case round =>
            obtain ⟨i, hi, rfl, rfl⟩ := hrel
            have hbi := HBB.out i hi
            by_cases hlt2 : i < (h.t 2).length
            · have bi : (i : Int) < ((h.t 2).length : Int) := by omega
              have co := fun o o' => (HTt.out o o').ob i hlt2
              have HS := hide (Tm.take_getD (h.t 2) Tm.sl0 i hlt2)
              obtain ⟨s, es⟩ : ∃ s, (h.t 2).getD i Tm.sl0 = s := ⟨_, rfl⟩
              simp only [es] at co HS
              clear es
              generalize htn : Tm.takenOf ((h.t 2).take i) = tn at *
              have HTN := hide htn
              clear htn
              by_cases ho : s.ob = 0
              · have ho' : (s.ob != 0) = false := by simpa using ho
                have HSt : Hid (Tm.takenOf ((h.t 2).take (i + 1)) = tn) := by show _ = _; rw [HS.out, Tm.takenOf_append, HTN.out]; simp [Tm.takenOf, ho]
                go_wp2_with fail
                exact ⟨⟨i + 1, by omega, by go_num, by rw [HSt.out]⟩, by simp [intOf]; omega⟩
              · have ho' : (s.ob != 0) = true := by simpa using ho
                have HSt : Hid (Tm.takenOf ((h.t 2).take (i + 1)) = tn + 1) := by show _ = _; rw [HS.out, Tm.takenOf_append, HTN.out]; simp [Tm.takenOf, ho]
                go_wp2_with fail
                exact ⟨⟨i + 1, by omega, by go_num, by rw [HSt.out]⟩, by simp [intOf]; omega⟩
            · have bi : ¬ (i : Int) < ((h.t 2).length : Int) := by omega
              have ei : (h.t 2).take i = h.t 2 := List.take_of_length_le (by omega)
              rw [ei] at hbi ⊢
              clear ei
              go_wp2_with fail
              exact ⟨⟨2 + 1, by omega, by omega, by go_num, by simp⟩, by simp [intOf]⟩
        · simp only [show (1 : Nat) < 3 ↔ True from by decide, show (2 : Nat) < 3 ↔ True from by decide, show (3 : Nat) < 3 ↔ False from by decide, if_true, if_false]
          have ht := fun o o' => (HR.out o o').tabs.tab 3 (by omega) (by omega)
          obtain ⟨hcap, hh⟩ := HH.out 3 (by omega) (by omega)
          have hl := (ht default default).len
          have bb : ∀ i, i ≤ (h.t 3).length → 0 ≤ Tm.takenOf ((h.t 3).take i) ∧ Tm.takenOf ((h.t 3).take i) ≤ (i : Int) := fun i hi => takenOf_bd _ i hi
          have HBB := hide bb
          have HTt := hide ht
          clear bb ht
          go_wp2_with fail
          go_loopw [6] (fun iv w' => ∃ i : Nat, i ≤ (h.t 3).length ∧ iv = .int .i64 i ∧ w' = ((w.alloc (.cells #[.int .i64 (0), .int .i64 (0), .int .i64 (0), .int .i64 (0), .int .i64 (0), .int .i64 (0)] 44)).alloc (.cells #[.int .i64 (cn), .int .i64 (rm), .int .i64 (Tm.takenOf (h.t 1)), .int .i64 (Tm.takenOf (h.t 2)), .int .i64 (Tm.takenOf ((h.t 3).take i)), .int .i64 (0)] 44))) (fun iv _ => (h.t 3).length - (intOf iv).toNat)
          case atStart => exact ⟨0, by omega, rfl, rfl⟩
          case round =>
            obtain ⟨i, hi, rfl, rfl⟩ := hrel
            have hbi := HBB.out i hi
            by_cases hlt2 : i < (h.t 3).length
            · have bi : (i : Int) < ((h.t 3).length : Int) := by omega
              have co := fun o o' => (HTt.out o o').ob i hlt2
              have HS := hide (Tm.take_getD (h.t 3) Tm.sl0 i hlt2)
              obtain ⟨s, es⟩ : ∃ s, (h.t 3).getD i Tm.sl0 = s := ⟨_, rfl⟩
              simp only [es] at co HS
              clear es
              generalize htn : Tm.takenOf ((h.t 3).take i) = tn at *
              have HTN := hide htn
              clear htn
              by_cases ho : s.ob = 0
              · have ho' : (s.ob != 0) = false := by simpa using ho
                have HSt : Hid (Tm.takenOf ((h.t 3).take (i + 1)) = tn) := by show _ = _; rw [HS.out, Tm.takenOf_append, HTN.out]; simp [Tm.takenOf, ho]
                go_wp2_with fail
                exact ⟨⟨i + 1, by omega, by go_num, by rw [HSt.out]⟩, by simp [intOf]; omega⟩
              · have ho' : (s.ob != 0) = true := by simpa using ho
                have HSt : Hid (Tm.takenOf ((h.t 3).take (i + 1)) = tn + 1) := by show _ = _; rw [HS.out, Tm.takenOf_append, HTN.out]; simp [Tm.takenOf, ho]
                go_wp2_with fail
                exact ⟨⟨i + 1, by omega, by go_num, by rw [HSt.out]⟩, by simp [intOf]; omega⟩
            · have bi : ¬ (i : Int) < ((h.t 3).length : Int) := by omega
              have ei : (h.t 3).take i = h.t 3 := List.take_of_length_le (by omega)
              rw [ei] at hbi ⊢
              clear ei
              go_wp2_with fail
              exact ⟨⟨3 + 1, by omega, by omega, by go_num, by simp⟩, by simp [intOf]⟩
        · have cf := fun o o' => (HR.out o o').frames
          go_wp2_with fail
          refine bodyPost_ret (v := statsV h) ?_ rfl ⟨rfl, ?_⟩
          · unfold statsV
            rw [HEC.out, HER.out]
            simp [results, Tryz.results108, go_sem]
          · exact ((Below.alloc0 _ _).trans ((Below.refl _ _).alloc (by simp) _))
end Go.Proofs.YtcnmfljpmpgnjaaGreatDoor

namespace Go.Proofs.YtcnmfljpmpgnjaaGreatDoor
open Go.RowKit
open Tm (H Ob Sl Why)



def cfgV (r l g k : Int) (v : Value) : Value := .agg #[.int .i64 r, .int .i64 l, .int .i64 g, .int .i64 k, v]

set_option maxRecDepth 100000 in
set_option maxHeartbeats 4000000 in
theorem right_any (w : World) (B : Nat) (r l g k : Int) (p : Option Addr) (c : Nat) (cl : List (List Int)) (hB : B ≤ w.heap.size) (hc : ClsIn w B (.slice p cl.length c) cl) :
    Calls Tryz.prog 132 #[.agg #[.int .i64 r, .int .i64 l, .int .i64 g, .int .i64 k, .slice p cl.length c]] w fun e w' => e = .returned (.bool (Tm.right r l g k cl)) ∧ Below w.heap.size w w' := by
  have hc1 := fun o => hc.below ((Below.alloc0 w o).mono hB)
  have hlen : cl.length ≤ 8796093022208 := by obtain ⟨p', c', e', hn0, hlen, _⟩ := hc; exact hlen
  have HC := hide hc1
  clear hc1 hc
  have HRt : Hid (Tm.right r l g k cl = (Tm.inR r 1 200 && (Tm.inR l 1 16 && (Tm.inR g 1 16 && (Tm.inR k 1 16 && (Tm.inR (cl.length : Int) 1 8 && cl.all Tm.goodClass)))))) := rfl
  go_enter Tryz.func132, Tryz.ntmps132
  go_wp2_with fail
  refine (in_any _ _ _ _).mono ?_
  rintro e w' ⟨rfl, rfl⟩
  go_wp2_with fail
  refine (in_any _ _ _ _).mono ?_
  rintro e w' ⟨rfl, rfl⟩
  go_wp2_with fail
  refine (in_any _ _ _ _).mono ?_
  rintro e w' ⟨rfl, rfl⟩
  go_wp2_with fail
  refine (in_any _ _ _ _).mono ?_
  rintro e w' ⟨rfl, rfl⟩
  go_wp2_with fail
  refine (in_any _ _ _ _).mono ?_
  rintro e w' ⟨rfl, rfl⟩
  have hfin : ∀ b : Bool, Tm.right r l g k cl = b → ∀ o, (Ending.returned (.bool b) = .returned (.bool (Tm.right r l g k cl)) ∧ Below w.heap.size w (w.alloc o)) := fun b hb o => ⟨by rw [hb], Below.alloc0 _ _⟩
  have HF := hide hfin
  clear hfin
  cases h1 : Tm.inR r 1 200
  · have hr := HRt.out
    rw [h1] at hr
    have HX := hide hr
    clear hr
    go_wp2_with fail
    go_ret
    exact HF.out false HX.out _
  cases h2 : Tm.inR l 1 16
  · have hr := HRt.out
    rw [h1, h2] at hr
    have HX := hide hr
    clear hr
    go_wp2_with fail
    go_ret
    exact HF.out false HX.out _
  cases h3 : Tm.inR g 1 16
  · have hr := HRt.out
    rw [h1, h2, h3] at hr
    have HX := hide hr
    clear hr
    go_wp2_with fail
    go_ret
    exact HF.out false HX.out _
  cases h4 : Tm.inR k 1 16
  · have hr := HRt.out
    rw [h1, h2, h3, h4] at hr
    have HX := hide hr
    clear hr
    go_wp2_with fail
    go_ret
    exact HF.out false HX.out _
  cases h5 : Tm.inR (cl.length : Int) 1 8
  · have hr := HRt.out
    rw [h1, h2, h3, h4, h5] at hr
    have HX := hide hr
    clear hr
    go_wp2_with fail
    go_ret
    exact HF.out false HX.out _
  have hr := HRt.out
  rw [h1, h2, h3, h4, h5] at hr
  have HX : Hid (Tm.right r l g k cl = cl.all Tm.goodClass) := by show _ = _; rw [hr]; rfl
  have hb5 := h5
  unfold Tm.inR at hb5
  simp only [decide_eq_true_eq] at hb5
  have hc2 := HC.out (.cells #[.int .i64 r, .int .i64 l, .int .i64 g, .int .i64 k, .slice p cl.length c] 63)
  obtain ⟨p', c', e', _, _, hcell⟩ := hc2
  simp only [Value.slice.injEq, true_and] at e'
  obtain ⟨rfl, rfl⟩ := e'
  obtain ⟨b, o, rfl, hbB, hrow⟩ := hcell (by omega)
  have HRow := hide hrow
  clear hrow hr HC HRt
  go_wp2_with fail
  go_loop [8] (fun iv => ∃ i : Nat, i ≤ cl.length ∧ iv = .int .i64 i ∧ cl.all Tm.goodClass = (cl.drop i).all Tm.goodClass) (fun iv => cl.length - (intOf iv).toNat)
  case atStart => exact ⟨0, by omega, rfl, by simp⟩
  case round =>
    obtain ⟨i, hi, rfl, heq⟩ := hrel
    have HE := hide heq
    clear heq
    by_cases hlt : i < cl.length
    · obtain ⟨u, cu, rp, rc, rfl, rn, rl, rcell⟩ := HRow.out i hlt
      have HD := hide (Tm.all_drop cl [] Tm.goodClass i hlt)
      have bi : (i : Int) < (cl.length : Int) := by omega
      obtain ⟨row, er⟩ : ∃ row, cl.getD i [] = row := ⟨_, rfl⟩
      rw [er] at cu rn rl rcell HD
      clear er rn
      by_cases hl8 : row.length ≤ 8
      · have HG : Hid (Tm.goodClass row = row.all fun x => Tm.inR x 1 2) := by show _ = _; unfold Tm.goodClass; simp [hl8]
        have b8 : ¬ (8 : Int) < (row.length : Int) := by omega
        go_wp2_with fail
        go_loop [9, 10] (fun kv _ => ∃ q : Nat, q ≤ row.length ∧ kv = .int .i64 q ∧ (row.all fun x => Tm.inR x 1 2) = ((row.drop q).all fun x => Tm.inR x 1 2)) (fun kv _ => row.length - (intOf kv).toNat)
        case atStart => exact ⟨0, by omega, rfl, by simp⟩
        case round =>
          obtain ⟨q, hq, rfl, heq⟩ := hrel
          have HE2 := hide heq
          clear heq
          by_cases hlt2 : q < row.length
          · obtain ⟨rb, ro, rfl, _, hcc⟩ := rcell (by omega)
            have cq := hcc q hlt2
            have HD2 := hide (Tm.all_drop row 0 (fun x => Tm.inR x 1 2) q hlt2)
            have bq : (q : Int) < (row.length : Int) := by omega
            obtain ⟨x, ex⟩ : ∃ x, row.getD q 0 = x := ⟨_, rfl⟩
            rw [ex] at cq HD2
            clear ex hcc
            go_wp2_with fail
            refine (in_any _ _ _ _).mono ?_
            rintro e w' ⟨rfl, rfl⟩
            cases hx : Tm.inR x 1 2
            · go_wp2_with fail
              go_ret
              exact HF.out false (by rw [HX.out, HE.out, HD.out, HG.out, HE2.out, HD2.out, hx]; rfl) _
            · go_wp2_with fail
              go_round
              case rel => exact ⟨q + 1, by omega, by go_num, by rw [HE2.out, HD2.out, hx]; rfl⟩
              case measure => simp [intOf]; omega
          · have bq : ¬ (q : Int) < (row.length : Int) := by omega
            go_wp2_with fail
            go_round
            case rel => exact ⟨i + 1, by omega, by go_num, by rw [HE.out, HD.out, HG.out, HE2.out, List.drop_eq_nil_of_le (by omega)]; simp⟩
            case measure => simp [intOf]; omega
      · have b8 : (8 : Int) < (row.length : Int) := by omega
        go_wp2_with fail
        go_ret
        exact HF.out false (by rw [HX.out, HE.out, HD.out]; unfold Tm.goodClass; simp [hl8]) _
    · have bi : ¬ (i : Int) < (cl.length : Int) := by omega
      go_wp2_with fail
      go_ret
      exact HF.out true (by rw [HX.out, HE.out, List.drop_eq_nil_of_le (by omega)]; rfl) _
end Go.Proofs.YtcnmfljpmpgnjaaGreatDoor

namespace Go.Proofs.YtcnmfljpmpgnjaaGreatDoor
open Go.RowKit
open Tm (H Ob Sl Why)

/-- What the world is when one class more has been written down. -/
structure PutC (w w' : World) (a : Nat) (bc bc' cc' cb n : Nat) (rp : Option Addr) (rc : Nat) (row : List Int) : Prop where
  size : w.heap.size ≤ w'.heap.size
  old : ∀ b, b < w.heap.size → b ≠ a → b ≠ bc' → w'.heap[b]? = w.heap[b]?
  a12 : w'.cell? ⟨a, 12, none⟩ = some (.slice (some ⟨bc', 0, none⟩) (n + 1) cc')
  ai : ∀ i, i ≠ 12 → w'.cell? ⟨a, i, none⟩ = w.cell? ⟨a, i, none⟩
  bl : (bc' = bc ∧ 0 < n) ∨ w.heap.size ≤ bc'
  bl1 : bc' < w'.heap.size
  keep : ∀ i, i < n → w'.cell? ⟨bc', i, none⟩ = w.cell? ⟨bc, i, none⟩
  last : w'.cell? ⟨bc', n, none⟩ = some (.slice rp row.length rc)
  row : 0 < row.length → rp = some ⟨cb, 0, none⟩ ∧ w.heap.size ≤ cb ∧ cb < w'.heap.size ∧ cb ≠ bc' ∧ (∀ i, w'.frozen? ⟨cb, i, none⟩ = false) ∧ ∀ i, i < row.length → w'.cell? ⟨cb, i, none⟩ = some (.int .i64 (row.getD i 0))
  soft : ∀ b i, b < w.heap.size → w.frozen? ⟨b, i, none⟩ = false → w'.frozen? ⟨b, i, none⟩ = false
  softc : ∀ i, w'.frozen? ⟨bc', i, none⟩ = false

def addH (h : H) (row : List Int) : H := { h with classes := h.classes ++ [row] }
def addS (S : Nat → Prop) (bc' cb kn : Nat) (b : Nat) : Prop := S b ∨ b = bc' ∨ (b = cb ∧ 0 < kn)
def addT (tag : Nat → Nat × Nat) (bc bc' cb n kn : Nat) (b : Nat) : Nat × Nat :=
  if b = bc' then (7, 0) else if b = cb ∧ 0 < kn then (5, 0) else if b = bc ∧ 0 < n then (9, 0) else tag b
def addY (Y : Lay) (bc' cb n : Nat) : Lay := { Y with bc := bc', cb := fun i => if i = n then cb else Y.cb i }

theorem Rep.addC {S : Nat → Prop} {tag : Nat → Nat × Nat} {w w' : World} {a : Nat} {Y : Lay} {h : H} (r : Rep S tag w a Y h) (hl0 : h.l = []) {bc' cc' cb rc : Nat} {rp : Option Addr} {row : List Int} (hrow : row.length ≤ 8) (hfew : h.classes.length < 8)
    (p : PutC w w' a Y.bc bc' cc' cb h.classes.length rp rc row) :
    Rep (addS S bc' cb row.length) (addT tag Y.bc bc' cb h.classes.length row.length) w' a (addY Y bc' cb h.classes.length) (addH h row) := by
  have sa := r.tabs.sa
  obtain ⟨cp, cc, c1, c2⟩ := r.classes
  have nl : ∀ b, S b → tag b ≠ (7, 0) → b ≠ bc' := fun b hb ht e => by
    rcases p.bl with ⟨q, q0⟩ | q
    · exact ht (by rw [e, q]; exact (c2 q0).2.2)
    · have := r.lt b hb; omega
  have nk : ∀ b, S b → ¬ (b = cb ∧ 0 < row.length) := fun b hb e => by have := (p.row e.2).2.1; have := r.lt b hb; omega
  have keepT : ∀ b, S b → tag b ≠ (7, 0) → addT tag Y.bc bc' cb h.classes.length row.length b = tag b := fun b hb h7 => by
    unfold addT
    rw [if_neg (nl b hb h7), if_neg (nk b hb), if_neg (fun e => h7 (by rw [e.1]; exact (c2 e.2).2.2))]
  have sub : ∀ b, S b → addS S bc' cb row.length b := fun b hb => Or.inl hb
  have same : ∀ b, S b → tag b ≠ (7, 0) → b ≠ a → w'.heap[b]? = w.heap[b]? := fun b hb h7 ha => p.old b (r.lt b hb) ha (nl b hb h7)
  have nota : ∀ b, tag b ≠ (0, 0) → b ≠ a := fun b hb e => hb (by rw [e]; exact r.tagA)
  have hcl : (addH h row).classes.length = h.classes.length + 1 := by simp [addH]
  have hL : h.l.length = 0 := by rw [hl0]; rfl
  refine ⟨fun b hb => ?_, fun b i hb => ?_, ⟨sub _ sa, r.tabs.t0, by rw [p.ai 6 (by omega)]; exact r.tabs.zero, fun k k0 k4 => ?_⟩, by rw [keepT a sa (by rw [r.tagA]; simp)]; exact r.tagA, fun k k0 k4 => ?_,
    by rw [p.ai 0 (by omega)]; exact r.room, r.small, by rw [p.ai 10 (by omega)]; exact r.frames, r.fr, by rw [p.ai 5 (by omega)]; exact r.list, r.many, r.cap, fun h0 => ?_, fun h0 => ?_, r.capm, r.empty, fun i hi => ?_, fun i hi => ?_,
    (r.ended.sub (sub _) (fun hb ht => by rw [keepT _ hb (by rw [ht]; simp)]; exact ht)).at (p.ai 11 (by omega)) (fun h0 => ?_), ⟨some ⟨bc', 0, none⟩, cc', by rw [hcl]; exact p.a12, fun _ => ⟨rfl, Or.inr (Or.inl rfl), ?_⟩⟩, by rw [hcl]; omega, fun i q hi => ?_, fun i hi => ?_, r.wf⟩
  · rcases hb with hb | rfl | ⟨rfl, h0⟩
    · have := r.lt b hb; have := p.size; omega
    · exact p.bl1
    · exact (p.row h0).2.2.1
  · rcases hb with hb | rfl | ⟨rfl, h0⟩
    · exact p.soft b i (r.lt b hb) (r.soft b i hb)
    · exact p.softc i
    · exact (p.row h0).2.2.2.2.1 i
  · have tb := r.tabs.tab k k0 k4
    have tk := r.tagT k k0 k4
    have hb := same (Y.bt k) tb.sb (by rw [tk]; simp) (nota _ (by rw [tk]; simp))
    exact ⟨sub _ tb.sa, sub _ tb.sb, tb.len, by rw [p.ai (6 + k) (by omega)]; exact tb.head, fun i hi => by rw [show (addY Y bc' cb h.classes.length).bt k = Y.bt k from rfl, cell_of hb]; exact tb.gen i hi, fun i hi => by rw [show (addY Y bc' cb h.classes.length).bt k = Y.bt k from rfl, cell_of hb]; exact tb.ob i hi, fun i hi => by rw [show (addY Y bc' cb h.classes.length).bt k = Y.bt k from rfl, cell_of hb]; exact tb.frame i hi, fun i => by rw [show (addY Y bc' cb h.classes.length).bt k = Y.bt k from rfl, frozen_of hb]; exact tb.soft i⟩
  · have tb := r.tabs.tab k k0 k4
    have tk := r.tagT k k0 k4
    rw [show (addY Y bc' cb h.classes.length).bt k = Y.bt k from rfl, keepT _ tb.sb (by rw [tk]; simp)]
    exact tk
  · obtain ⟨q1, q2, q3⟩ := r.listAt h0
    exact ⟨q1, sub _ q2, by rw [show (addY Y bc' cb h.classes.length).bL = Y.bL from rfl, keepT _ q2 (by rw [q3]; simp)]; exact q3⟩
  · obtain ⟨q1, q2, q3⟩ := r.listAt h0
    rw [show (addY Y bc' cb h.classes.length).bL = Y.bL from rfl, same _ q2 (by rw [q3]; simp) (nota _ (by rw [q3]; simp))]; exact r.block h0
  · have hi' : i < h.l.length := hi
    omega
  · have hi' : i < h.l.length := hi
    omega
  · obtain ⟨_, q2, q3, _⟩ := r.ended.one h0
    exact same _ q2 (by rw [q3]; simp) (nota _ (by rw [q3]; simp))
  · show addT tag Y.bc bc' cb h.classes.length row.length bc' = (7, 0)
    unfold addT; rw [if_pos rfl]
  · have hi' : i < h.l.length := hi
    omega
  · rw [hcl] at hi
    by_cases e : i = h.classes.length
    · subst e
      have hg : (addH h row).classes.getD h.classes.length [] = row := by simp [addH, List.getD_eq_getElem?_getD]
      rw [hg]
      show _ ∧ ((addT tag Y.bc bc' cb h.classes.length row.length (if h.classes.length = h.classes.length then cb else Y.cb h.classes.length)).1 = 5 ∨ _) ∧ ∃ v, w'.cell? ⟨bc', h.classes.length, none⟩ = some v ∧ IntsV _ w' v (if h.classes.length = h.classes.length then cb else Y.cb h.classes.length) row
      rw [if_pos rfl]
      refine ⟨hrow, ?_, _, p.last, rp, rc, rfl, fun h0 => ⟨(p.row h0).1, Or.inr (Or.inr ⟨rfl, h0⟩)⟩, fun i hi => (p.row (by omega)).2.2.2.2.2 i hi⟩
      by_cases h0 : 0 < row.length
      · left
        unfold addT
        rw [if_neg (p.row h0).2.2.2.1, if_pos ⟨rfl, h0⟩]
      · right; exact List.eq_nil_of_length_eq_zero (by omega)
    · have hi2 : i < h.classes.length := by omega
      have hg : (addH h row).classes.getD i [] = h.classes.getD i [] := by simp [addH, List.getD_eq_getElem?_getD, List.getElem?_append_left hi2]
      rw [hg]
      show _ ∧ ((addT tag Y.bc bc' cb h.classes.length row.length (if i = h.classes.length then cb else Y.cb i)).1 = 5 ∨ _) ∧ ∃ v, w'.cell? ⟨bc', i, none⟩ = some v ∧ IntsV _ w' v (if i = h.classes.length then cb else Y.cb i) _
      rw [if_neg e]
      obtain ⟨h1, h2, v, h3, pp, pc, p1, p2, p3⟩ := r.clas i hi2
      have t7 : (tag (Y.cb i)).1 = 5 → tag (Y.cb i) ≠ (7, 0) ∧ tag (Y.cb i) ≠ (0, 0) := fun q => ⟨fun e => by rw [e] at q; simp at q, fun e => by rw [e] at q; simp at q⟩
      refine ⟨h1, ?_, v, by rw [p.keep i hi2]; exact h3, (IntsV.sub ⟨pp, pc, p1, p2, p3⟩ sub).at fun h0 => ?_⟩
      · rcases h2 with h2 | h2
        · by_cases h0 : 0 < (h.classes.getD i []).length
          · left; rw [keepT _ (p2 h0).2 (t7 h2).1]; exact h2
          · right; exact List.eq_nil_of_length_eq_zero (by omega)
        · exact Or.inr h2
      · rcases h2 with h2 | h2
        · exact same _ (p2 h0).2 (t7 h2).1 (nota _ (t7 h2).2)
        · rw [h2] at h0; simp at h0
end Go.Proofs.YtcnmfljpmpgnjaaGreatDoor
