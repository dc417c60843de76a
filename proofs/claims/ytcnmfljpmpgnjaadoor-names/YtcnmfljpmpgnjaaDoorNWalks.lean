import Derived.Test.YtcnmfljpmpgnjaaDoorRows
import Derived.WalkKit
import Derived.LaidEql
import Derived.WideLaws
import Derived.Deep.QuietTactic
import Derived.BigQuiet
namespace Go.Proofs.YtcnmfljpmpgnjaaDoor
open Go.RowKit

def ev (a : Addr) : Value := .iface 27 (.pointer (some a))

set_option maxHeartbeats 1000000 in
theorem errs_any (w : World) (a0 a1 a2 a3 a4 a5 a6 a7 a8 a9 : Addr)
    (h0 : w.cell? ⟨0, 0, none⟩ = some (.iface 27 (.pointer (some a0)))) (h1 : w.cell? ⟨1, 0, none⟩ = some (.iface 27 (.pointer (some a1)))) (h2 : w.cell? ⟨2, 0, none⟩ = some (.iface 27 (.pointer (some a2)))) (h3 : w.cell? ⟨3, 0, none⟩ = some (.iface 27 (.pointer (some a3)))) (h4 : w.cell? ⟨4, 0, none⟩ = some (.iface 27 (.pointer (some a4))))
    (h5 : w.cell? ⟨5, 0, none⟩ = some (.iface 27 (.pointer (some a5)))) (h6 : w.cell? ⟨6, 0, none⟩ = some (.iface 27 (.pointer (some a6)))) (h7 : w.cell? ⟨7, 0, none⟩ = some (.iface 27 (.pointer (some a7)))) (h8 : w.cell? ⟨8, 0, none⟩ = some (.iface 27 (.pointer (some a8)))) (h9 : w.cell? ⟨9, 0, none⟩ = some (.iface 27 (.pointer (some a9)))) :
    Calls Tryd.prog 4 #[] w fun e w' => e = .returned (.slice (some ⟨w.heap.size, 0, none⟩) 11 11) ∧ w' = w.alloc (.cells #[.nilIface, .iface 27 (.pointer (some a0)), .iface 27 (.pointer (some a1)), .iface 27 (.pointer (some a2)), .iface 27 (.pointer (some a3)), .iface 27 (.pointer (some a4)), .iface 27 (.pointer (some a5)), .iface 27 (.pointer (some a6)), .iface 27 (.pointer (some a7)), .iface 27 (.pointer (some a8)), .iface 27 (.pointer (some a9))] 25) := by
  go_enter Tryd.func4, Tryd.ntmps4
  go_wp2
  go_ret
  exact ⟨rfl, rfl⟩

theorem comp27 : (Tryd.prog.info? 27).map (·.comparable) = some true := by kernel_rfl
theorem size45 : (Tryd.prog.info? 45).map (fun j => decide (j.size ≠ 0)) = some true := by kernel_rfl

theorem eql_other {w : World} {a b : Addr} {ca cb : Array Value} {ta tb : TypeId} (hne : a ≠ b) (ha : w.heap[a.block]? = some (.cells ca ta (0, 0))) (hb : w.heap[b.block]? = some (.cells cb tb (0, 0))) :
    (binOp .eql 25 (.iface 27 (.pointer (some a))) (.iface 27 (.pointer (some b)))).run Tryd.prog w = .ok (.bool false) w := by
  obtain ⟨i, hi, hic⟩ := Option.map_eq_some_iff.1 comp27
  obtain ⟨j, hj, hjs⟩ := Option.map_eq_some_iff.1 size45
  exact run_eql_iface_ptr_other w Tryd.underlying25 Tryd.underlying27 hi hic hj (of_decide_eq_true hjs) hne ha hb

set_option maxHeartbeats 1000000 in
theorem names_any (w w1 : World) (b : Nat) (A : Nat → Addr) (herrs : Hid (Calls Tryd.prog 4 #[] w fun e w' => e = .returned (.slice (some ⟨b, 0, none⟩) 11 11) ∧ w1 = w'))
    (hc0 : w1.cell? ⟨b, 0, none⟩ = some .nilIface)
    (hc : ∀ i : Nat, 0 < i → i < 11 → w1.cell? ⟨b, i, none⟩ = some (.iface 27 (.pointer (some (A i)))))
    (heq : ∀ i j : Nat, 0 < j → j < i → i < 11 → ∀ w' : World, w'.heap = w1.heap → (binOp .eql 25 (.iface 27 (.pointer (some (A i)))) (.iface 27 (.pointer (some (A j))))).run Tryd.prog w' = .ok (.bool false) w') :
    Calls Tryd.prog 3 #[] w fun e w' => e = .returned (.bool true) ∧ w'.Alike w1 := by
  go_enter Tryd.func3, Tryd.ntmps3
  go_wp2_with (go_at_call 4; refine herrs.out.mono ?_; rintro e w' ⟨rfl, rfl⟩)
  go_loopw [2] (fun i w' => ∃ k m : Nat, k ≤ 11 ∧ i = .int .i64 k ∧ w' = w1.drewN m) (fun i _ => 11 - (intOf i).toNat)
  case atStart => exact ⟨0, 0, by omega, rfl, rfl⟩
  case round =>
    obtain ⟨k, m, hk, rfl, rfl⟩ := hrel
    by_cases hlt : k < 11
    · go_wp2_with fail
      go_loopw [3] (fun i w' => ∃ j m : Nat, j ≤ k ∧ i = .int .i64 j ∧ w' = w1.drewN m) (fun i _ => k - (intOf i).toNat)
      case atStart => exact ⟨0, m, by omega, rfl, rfl⟩
      case round =>
        obtain ⟨j, m2, hj, rfl, rfl⟩ := hrel
        by_cases hjk : j < k
        · have c1 := hc k (by omega) hlt
          have b1 : (k : Int) < 11 := by omega
          have b2 : (j : Int) < 11 := by omega
          have b3 : (j : Int) < k := by omega
          rcases Nat.eq_zero_or_pos j with hj0 | hj0
          · subst hj0
            go_wp2_with fail
            go_quiet (fail)
            go_wp2_with fail
            go_roundw
            case rel => exact ⟨1, m2 + nq, by omega, by go_num, by simp⟩
            case measure => simp [intOf]; omega
          · have c2 := hc j hj0 (by omega)
            have hq : ∀ n, (binOp .eql 25 (.iface 27 (.pointer (some (A k)))) (.iface 27 (.pointer (some (A j))))).run Tryd.prog (w1.drewN n) = .ok (.bool false) (w1.drewN n) := fun n => heq k j hj0 hjk hlt _ (by simp)
            go_wp2_with fail
            go_quiet (fail)
            go_wp2_with fail
            go_roundw
            case rel => exact ⟨j + 1, m2 + nq, by omega, by go_num, by simp⟩
            case measure => simp [intOf]; omega
        · have b1 : (k : Int) < 11 := by omega
          have b3 : ¬ (j : Int) < k := by omega
          go_wp2_with fail
          go_roundw
          case rel => exact ⟨k + 1, m2, by omega, by go_num, rfl⟩
          case measure => simp [intOf]; omega
    · have b1 : ¬ (k : Int) < 11 := by omega
      go_wp2_with fail
      go_ret
      exact ⟨rfl, World.drewN_alike _ _⟩
end Go.Proofs.YtcnmfljpmpgnjaaDoor
