import Derived.Test.YtcnmfljpmpgnjaaGreatDoorK23
import Derived.Test.YtcnmfljpmpgnjaaGreatDoorK00
import Derived.Laws.CopyRow
import Derived.Laws.CopyOwn
import Derived.Test.YtcnmfljpmpgnjaaGreatDoorK15
namespace Go.Proofs.YtcnmfljpmpgnjaaGreatDoor
open Go.RowKit
open Tm (H Ob Sl Why)

theorem getD_in {α : Type} (l : List α) (d : α) (i : Nat) (h : i < l.length) : l.getD i d ∈ l := by
  rw [List.getD_eq_getElem?_getD, List.getElem?_eq_getElem h]; exact List.getElem_mem _

theorem badKind_any (k : Int) (w : World) :
    Calls Tryz.prog 129 #[.int .i64 k] w fun e w' => e = .returned (.bool (!(Tm.inR k 1 2))) ∧ w' = w := by
  have HE : Hid ((!(Tm.inR k 1 2)) = (decide (k ≠ 1) && decide (k ≠ 2))) := by
    show (!(Tm.inR k 1 2)) = _
    unfold Tm.inR
    by_cases h1 : k = 1
    · subst h1; rfl
    · by_cases h2 : k = 2
      · subst h2; rfl
      · have : ¬ (1 ≤ k ∧ k ≤ 2) := by omega
        simp [h1, h2, this]
  by_cases h1 : k = 1
  · subst h1
    go_enter Tryz.func129, Tryz.ntmps129
    go_wp2_with fail
    go_ret
    exact ⟨ret_bool (by rw [HE.out]; rfl), rfl⟩
  · have h1' : (k != 1) = true := by simpa using h1
    go_enter Tryz.func129, Tryz.ntmps129
    go_wp2_with fail
    go_ret
    exact ⟨ret_bool (by rw [HE.out]; by_cases h2 : k = 2 <;> simp [h1, h2]), rfl⟩

set_option maxRecDepth 100000 in
set_option maxHeartbeats 2000000 in
theorem idxKinds_any (w : World) (B : Nat) (p : Option Addr) (c : Nat) (l : List Int) (hv : RowIn w B (.slice p l.length c) l) :
    Calls Tryz.prog 157 #[.slice p l.length c, .func (.func 129) #[] #[]] w fun e w' => (∃ r : Int, e = .returned (.int .i64 r) ∧ decide (0 ≤ r) = l.any (fun x => !(Tm.inR x 1 2))) ∧ w' = w := by
  obtain ⟨p', c', e, h0, h1, h2⟩ := hv
  injection e with e1 _ e3
  subst e1 e3
  have H2 := hide h2
  clear h0 h2
  go_enter Tryz.func157, Tryz.ntmps157
  go_wp2_with fail
  go_loop [5, 8] (fun _ iv => ∃ i : Nat, i ≤ l.length ∧ iv = .int .i64 i ∧ ∀ j, j < i → Tm.inR (l.getD j 0) 1 2 = true) (fun _ iv => l.length - (intOf iv).toNat)
  case atStart => exact ⟨0, by omega, rfl, fun j hj => absurd hj (Nat.not_lt_zero _)⟩
  case round =>
    obtain ⟨i, hi, rfl, hg⟩ := hrel
    have HG := hide hg
    clear hg
    by_cases hlt : i < l.length
    · have bi : (i : Int) < (l.length : Int) := by omega
      obtain ⟨b, o, rfl, hb, hc⟩ := H2.out (by omega)
      have ci := hc i hlt
      have HBk := hide (badKind_any (l.getD i 0) w)
      clear hc
      cases hr : Tm.inR (l.getD i 0) 1 2
      · rw [hr] at HBk
        have HAny : Hid (l.any (fun x => !(Tm.inR x 1 2)) = true) := List.any_eq_true.2 ⟨l.getD i 0, getD_in l 0 i hlt, by rw [hr]; rfl⟩
        generalize l.getD i 0 = x at *
        go_wp2_with fail
        refine HBk.out.mono ?_
        rintro e w9 ⟨rfl, h9⟩
        rw [h9]
        clear h9
        go_wp2_with fail
        go_ret
        exact ⟨⟨(i : Int), rfl, by rw [HAny.out]; simp⟩, rfl⟩
      · rw [hr] at HBk
        have HG2 : Hid (∀ j, j < i + 1 → Tm.inR (l.getD j 0) 1 2 = true) := fun j hj => by
          by_cases e : j = i
          · subst e; exact hr
          · exact HG.out j (by omega)
        generalize l.getD i 0 = x at *
        go_wp2_with fail
        refine HBk.out.mono ?_
        rintro e w9 ⟨rfl, h9⟩
        rw [h9]
        clear h9
        go_wp2_with fail
        exact ⟨⟨i + 1, by omega, by go_num, HG2.out⟩, by simp [intOf]; omega⟩
    · have bi : ¬ (i : Int) < (l.length : Int) := by omega
      go_wp2_with fail
      go_ret
      refine ⟨⟨-1, rfl, ?_⟩, rfl⟩
      obtain rfl : i = l.length := by omega
      have : l.any (fun x => !(Tm.inR x 1 2)) = false := by
        rw [List.any_eq_false]
        intro x hx
        obtain ⟨j, hj, rfl⟩ := List.getElem_of_mem hx
        have := HG.out j hj
        rw [List.getD_eq_getElem?_getD, List.getElem?_eq_getElem hj] at this
        simpa using this
      rw [this]; decide

theorem hasKinds_any (w : World) (B : Nat) (p : Option Addr) (c : Nat) (l : List Int) (hv : RowIn w B (.slice p l.length c) l) :
    Calls Tryz.prog 128 #[.slice p l.length c, .func (.func 129) #[] #[]] w fun e w' => e = .returned (.bool (l.any (fun x => !(Tm.inR x 1 2)))) ∧ w' = w := by
  have HI := hide (idxKinds_any w B p c l hv)
  clear hv
  go_enter Tryz.func128, Tryz.ntmps128
  go_wp2_with fail
  refine HI.out.mono ?_
  rintro e w9 ⟨⟨r, rfl, hr⟩, h9⟩
  rw [h9]
  clear h9
  have HR := hide hr
  clear hr
  go_wp2_with fail
  go_ret
  exact ⟨ret_bool (by rw [← HR.out]), rfl⟩

set_option maxRecDepth 100000 in
theorem badClass_any (w : World) (B : Nat) (v : Value) (l : List Int) (hv : RowIn w B v l) :
    Calls Tryz.prog 98 #[v] w fun e w' => e = .returned (.bool (!(Tm.goodClass l))) ∧ w' = w := by
  have hv' := hv
  obtain ⟨p, c, rfl, h0, h1, h2⟩ := hv
  have HC := hide (hasKinds_any w B p c l hv')
  clear hv' h0 h2
  by_cases h8 : l.length ≤ 8
  · have HE : Hid ((!(Tm.goodClass l)) = l.any (fun x => !(Tm.inR x 1 2))) := by
      show (!(Tm.goodClass l)) = _
      unfold Tm.goodClass
      simp only [h8, decide_true, Bool.true_and]
      rw [List.not_all_eq_any_not]
    have b8 : ¬ (l.length : Int) > 8 := by omega
    go_enter Tryz.func98, Tryz.ntmps98
    go_wp2_with fail
    refine HC.out.mono ?_
    rintro e w9 ⟨rfl, h9⟩
    rw [h9]
    clear h9
    go_wp2_with fail
    go_ret
    exact ⟨ret_bool (by rw [HE.out]; try rfl), rfl⟩
  · have HE : Hid ((!(Tm.goodClass l)) = true) := by
      show (!(Tm.goodClass l)) = _
      unfold Tm.goodClass
      simp [h8]
    have b8 : (l.length : Int) > 8 := by omega
    go_enter Tryz.func98, Tryz.ntmps98
    go_wp2_with fail
    go_ret
    exact ⟨ret_bool (by rw [HE.out]; try rfl), rfl⟩

set_option maxRecDepth 100000 in
set_option maxHeartbeats 2000000 in
theorem idxClasses_any (w : World) (B : Nat) (p : Option Addr) (c : Nat) (cl : List (List Int)) (hv : ClsIn w B (.slice p cl.length c) cl) :
    Calls Tryz.prog 127 #[.slice p cl.length c, .func (.func 98) #[] #[]] w fun e w' => (∃ r : Int, e = .returned (.int .i64 r) ∧ decide (0 ≤ r) = !(cl.all Tm.goodClass)) ∧ w' = w := by
  obtain ⟨p', c', e, h0, h1, h2⟩ := hv
  injection e with e1 _ e3
  subst e1 e3
  have H2 := hide h2
  clear h0 h2
  go_enter Tryz.func127, Tryz.ntmps127
  go_wp2_with fail
  go_loop [5, 8] (fun _ iv => ∃ i : Nat, i ≤ cl.length ∧ iv = .int .i64 i ∧ ∀ j, j < i → Tm.goodClass (cl.getD j []) = true) (fun _ iv => cl.length - (intOf iv).toNat)
  case atStart => exact ⟨0, by omega, rfl, fun j hj => absurd hj (Nat.not_lt_zero _)⟩
  case round =>
    obtain ⟨i, hi, rfl, hg⟩ := hrel
    have HG := hide hg
    clear hg
    by_cases hlt : i < cl.length
    · have bi : (i : Int) < (cl.length : Int) := by omega
      obtain ⟨b, o, rfl, hb, hc⟩ := H2.out (by omega)
      obtain ⟨u, ci, hru⟩ := hc i hlt
      have HBk := hide (badClass_any w B u (cl.getD i []) hru)
      clear hc hru
      cases hr : Tm.goodClass (cl.getD i [])
      · rw [hr] at HBk
        have HAny : Hid ((!(cl.all Tm.goodClass)) = true) := by
          show (!(cl.all Tm.goodClass)) = true
          have : cl.all Tm.goodClass = false := by
            rw [List.all_eq_false]
            exact ⟨cl.getD i [], getD_in cl [] i hlt, by rw [hr]; decide⟩
          rw [this]; rfl
        go_wp2_with fail
        refine HBk.out.mono ?_
        rintro e w9 ⟨rfl, h9⟩
        rw [h9]
        clear h9
        go_wp2_with fail
        go_ret
        exact ⟨⟨(i : Int), rfl, by rw [HAny.out]; simp⟩, rfl⟩
      · rw [hr] at HBk
        have HG2 : Hid (∀ j, j < i + 1 → Tm.goodClass (cl.getD j []) = true) := fun j hj => by
          by_cases e : j = i
          · subst e; exact hr
          · exact HG.out j (by omega)
        go_wp2_with fail
        refine HBk.out.mono ?_
        rintro e w9 ⟨rfl, h9⟩
        rw [h9]
        clear h9
        go_wp2_with fail
        exact ⟨⟨i + 1, by omega, by go_num, HG2.out⟩, by simp [intOf]; omega⟩
    · have bi : ¬ (i : Int) < (cl.length : Int) := by omega
      go_wp2_with fail
      go_ret
      refine ⟨⟨-1, rfl, ?_⟩, rfl⟩
      obtain rfl : i = cl.length := by omega
      have : cl.all Tm.goodClass = true := by
        rw [List.all_eq_true]
        intro x hx
        obtain ⟨j, hj, rfl⟩ := List.getElem_of_mem hx
        have := HG.out j hj
        rw [List.getD_eq_getElem?_getD, List.getElem?_eq_getElem hj] at this
        simpa using this
      rw [this]; decide

theorem hasClasses_any (w : World) (B : Nat) (p : Option Addr) (c : Nat) (cl : List (List Int)) (hv : ClsIn w B (.slice p cl.length c) cl) :
    Calls Tryz.prog 97 #[.slice p cl.length c, .func (.func 98) #[] #[]] w fun e w' => e = .returned (.bool (!(cl.all Tm.goodClass))) ∧ w' = w := by
  have HI := hide (idxClasses_any w B p c cl hv)
  clear hv
  go_enter Tryz.func97, Tryz.ntmps97
  go_wp2_with fail
  refine HI.out.mono ?_
  rintro e w9 ⟨⟨r, rfl, hr⟩, h9⟩
  rw [h9]
  clear h9
  have HR := hide hr
  clear hr
  go_wp2_with fail
  go_ret
  exact ⟨ret_bool (by rw [← HR.out]), rfl⟩
end Go.Proofs.YtcnmfljpmpgnjaaGreatDoor

namespace Go.Proofs.YtcnmfljpmpgnjaaGreatDoor
open Go.RowKit
open Tm (H Ob Sl Why)

theorem upto32 {P : Nat → Prop} (h : ∀ i : Fin 33, P i.val) (n : Nat) (hn : n ≤ 32) : P n := h ⟨n, by omega⟩

theorem mul_key : ∀ i : Fin 33, IntKind.u64.wrap (IntKind.u64.wrap (IntKind.u64.wrap (IntKind.u64.wrap (bits BinOp.and IntKind.u64 1 4294967295 * bits BinOp.and IntKind.u64 ((i.val : Nat) : Int) 4294967295) / 4294967296) / 4294967296) +
        IntKind.u64.wrap (bits BinOp.and IntKind.u64 (IntKind.u64.wrap (IntKind.u64.wrap (bits BinOp.and IntKind.u64 1 4294967295 * bits BinOp.and IntKind.u64 ((i.val : Nat) : Int) 4294967295) / 4294967296)) 4294967295 +
              IntKind.u64.wrap (bits BinOp.and IntKind.u64 1 4294967295 * (((i.val : Nat) : Int) / 4294967296))) / 4294967296) = 0 := by decide +kernel

set_option maxRecDepth 100000 in
set_option maxHeartbeats 4000000 in
theorem mul64_one (w : World) (n : Nat) (hn : n ≤ 32) :
    Calls Tryz.prog 186 #[.int .u64 1, .int .u64 (n : Int)] w fun e w' => e = .returned (.tuple #[.int .u64 0, .int .u64 (n : Int)]) ∧ w' = w := by
  go_enter Tryz.func186, Tryz.ntmps186
  go_wp2_with fail
  refine bodyPost_ret (v := .tuple #[.int .u64 0, .int .u64 (n : Int)]) ?_ rfl ⟨rfl, rfl⟩
  simp [results, Tryz.results186, go_sem]
  exact mul_key ⟨n, by omega⟩

theorem mul_one (w : World) (n : Nat) (hn : n ≤ 32) :
    Calls Tryz.prog 173 #[.int .u64 1, .int .u64 (n : Int)] w fun e w' => e = .returned (.tuple #[.int .u64 0, .int .u64 (n : Int)]) ∧ w' = w := by
  have HM := hide (mul64_one w n hn)
  go_enter Tryz.func173, Tryz.ntmps173
  go_wp2_with fail
  refine HM.out.mono ?_
  rintro e w9 ⟨rfl, h9⟩
  rw [h9]
  clear h9
  go_wp2_with fail
  exact bodyPost_ret (v := .tuple #[.int .u64 0, .int .u64 (n : Int)]) (by simp [results, Tryz.results173, go_sem]) rfl ⟨rfl, rfl⟩
end Go.Proofs.YtcnmfljpmpgnjaaGreatDoor

namespace Go.Proofs.YtcnmfljpmpgnjaaGreatDoor
open Go.RowKit

/-- The row that slices.Repeat fills: m cells are k, the others are 0 yet. -/
def repRow (k : Int) (m n : Nat) : Array Value := (List.replicate m (Value.int .i64 k) ++ List.replicate (n - m) (Value.int .i64 0)).toArray

theorem repRow_size (k : Int) (m n : Nat) (h : m ≤ n) : (repRow k m n).size = n := by simp [repRow]; omega

theorem repRow_next (k : Int) (m n q : Nat) (_ : m + q ≤ n) :
    ((repRow k m n).toList.take m ++ List.replicate q (Value.int .i64 k) ++ (repRow k m n).toList.drop (m + q)).toArray = repRow k (m + q) n := by
  simp only [repRow]
  congr 1
  rw [List.take_append_of_le_length (by simp)]
  rw [List.take_of_length_le (by simp), List.drop_append, List.drop_of_length_le (by simp), List.nil_append]
  simp only [List.length_replicate, Nat.add_sub_cancel_left, List.drop_replicate, List.replicate_append_replicate]
  congr 2
  omega

/-- copy(s[m:], s[:m]) over a row of that form. -/
theorem rep_copy (w : World) (k : Int) (g m n c c' : Nat) (h : m ≤ n) (hg : w.heap[g]? = some (.cells (repRow k m n) 3 (0, 0))) (ty : TypeId) :
    (Builtin.copy_ #[24, 24] ty #[.slice (some ⟨g, m, none⟩) (n - m) c, .slice (some ⟨g, 0, none⟩) m c']).run Tryz.prog w = .ok (goInt (Nat.min m (n - m))) (w.setRow g (repRow k (m + Nat.min m (n - m)) n)) := by
  have hq : m + Nat.min m (n - m) ≤ n := by
    have : Nat.min m (n - m) ≤ n - m := Nat.min_le_right _ _
    omega
  have hqm : Nat.min m (n - m) ≤ m := Nat.min_le_left _ _
  obtain ⟨i, hi, hz, hs, hb⟩ := info_parts info3
  have := run_copy_row (P := Tryz.prog) w 24 24 ty 3 g m (n - m) c ⟨g, 0, none⟩ m c' (repRow k m n) 3 (List.replicate (Nat.min m (n - m)) (Value.int .i64 k)) Tryz.underlying24 (by rw [hi]; simp [hs]) hg (by simp) (fun j v hj => by
    have hjl : j < Nat.min m (n - m) := by
      rcases Nat.lt_or_ge j (Nat.min m (n - m)) with h | h
      · exact h
      · rw [List.getElem?_eq_none (by simpa using h)] at hj; cases hj
    rw [List.getElem?_replicate, if_pos hjl] at hj
    rw [Addr.add_lit, ← hj]
    have hjm : j < m := by omega
    have e1 : (repRow k m n)[j]? = some (Value.int .i64 k) := by
      simp only [repRow, List.getElem?_toArray]
      rw [List.getElem?_append_left (by simpa using hjm)]
      simp [hjm]
    simpa [World.cell?, hg] using e1) (by rw [repRow_size _ _ _ h]; simpa using hq) (fun v hv => by rw [List.eq_of_mem_replicate hv]; rfl)
  rw [this]
  simp only [List.length_replicate]
  rw [repRow_next k m n _ hq]

/-- make([]int, n), and copy of the one element into it. -/
theorem rep_first (w : World) (k : Int) (g n c c' b o : Nat) (hn : 1 ≤ n) (hg : w.heap[g]? = some (.cells (repRow k 0 n) 3 (0, 0))) (hx : w.cell? ⟨b, o, none⟩ = some (.int .i64 k)) (ty : TypeId) :
    (Builtin.copy_ #[24, 24] ty #[.slice (some ⟨g, 0, none⟩) n c, .slice (some ⟨b, o, none⟩) 1 c']).run Tryz.prog w = .ok (goInt 1) (w.setRow g (repRow k 1 n)) := by
  obtain ⟨i, hi, hz, hs, hb⟩ := info_parts info3
  have := run_copy_row (P := Tryz.prog) w 24 24 ty 3 g 0 n c ⟨b, o, none⟩ 1 c' (repRow k 0 n) 3 [Value.int .i64 k] Tryz.underlying24 (by rw [hi]; simp [hs]) hg (by show 1 = Nat.min 1 n; exact (Nat.min_eq_left hn).symm) (fun j v hj => by
    match j, hj with
    | 0, hj => simp at hj; subst hj; rw [Addr.add_lit]; exact hx) (by rw [repRow_size _ _ _ (Nat.zero_le _)]; simpa using hn) (fun v hv => by simp at hv; subst hv; rfl)
  rw [this]
  have e := repRow_next k 0 n 1 (by omega)
  simp only [List.replicate_one] at e
  simp only [List.length_singleton]
  rw [e, Nat.zero_add]
  rfl
end Go.Proofs.YtcnmfljpmpgnjaaGreatDoor

namespace Go.Proofs.YtcnmfljpmpgnjaaGreatDoor
open Go.RowKit

set_option maxRecDepth 100000 in
set_option maxHeartbeats 2000000 in
/-- slices.Repeat of one number. -/
theorem repeat_one (w : World) (k : Int) (n b o c : Nat) (hn1 : 1 ≤ n) (hn : n ≤ 32) (hx : w.cell? ⟨b, o, none⟩ = some (.int .i64 k)) (hb : b < w.heap.size) :
    Calls Tryz.prog 166 #[.slice (some ⟨b, o, none⟩) 1 c, .int .i64 (n : Int)] w fun e w' => e = .returned (.slice (some ⟨w.heap.size, 0, none⟩) n n) ∧ Below w.heap.size w w' ∧ w'.heap.size = w.heap.size + 1 ∧ w'.heap[w.heap.size]? = some (.cells (repRow k n n) 3 (0, 0)) := by
  have HM := hide (mul_one w n hn)
  have e0 : ¬ (n : Int) < 0 := by omega
  have hm : madeCells #[Value.int .i64 0] n = repRow k 0 n := by
    apply Array.ext_getElem?
    intro i
    simp only [madeCells, repRow, List.replicate_zero, List.nil_append, Nat.sub_zero, List.getElem?_toArray, List.getElem?_replicate]
    by_cases h : i < n <;> simp [h, Nat.mod_one]
  have hmk := fun w' => make_ints w' n (by omega)
  rw [hm] at hmk
  have hx1 : (w.alloc (.cells (repRow k 0 n) 3)).cell? ⟨b, o, none⟩ = some (.int .i64 k) := by
    rw [World.cell?_of_block (heap_alloc_old _ _ hb)]; exact hx
  have hcp := rep_first (w.alloc (.cells (repRow k 0 n) 3)) k w.heap.size n n c b o hn1 (heap_alloc_new _ _) hx1 3
  clear hm
  go_enter Tryz.func166, Tryz.ntmps166
  go_wp2_with fail
  refine HM.out.mono ?_
  rintro e w9 ⟨rfl, h9⟩
  rw [h9]
  clear h9
  go_wp2_with fail
  go_loopw [8] (fun mv w' => ∃ m : Nat, 1 ≤ m ∧ m ≤ n ∧ mv = .int .i64 m ∧ w'.heap[w.heap.size]? = some (.cells (repRow k m n) 3 (0, 0)) ∧ Below w.heap.size w w' ∧ w'.heap.size = w.heap.size + 1) (fun mv _ => n - (intOf mv).toNat)
  case atStart =>
    refine ⟨1, by omega, hn1, rfl, ?_, ?_, ?_⟩
    · exact setRow_heap _ _ _ _ _ _ (heap_alloc_new w (.cells (repRow k 0 n) 3))
    · exact below_setRow (Below.alloc0 _ _) (Nat.le_refl _) _
    · simp [World.setRow]
  case round =>
    obtain ⟨m, h1, h2, rfl, hg, hbl, hsz⟩ := hrel
    by_cases hlt : m < n
    · have bi : (m : Int) < (n : Int) := by omega
      have hc2 := rep_copy (World.drew _) k w.heap.size m n (n - m) n h2 hg 3
      have HG := hide hg
      clear hg hcp hmk
      have hmin : Nat.min m (n - m) ≤ n - m := Nat.min_le_right _ _
      have hmin1 : 1 ≤ Nat.min m (n - m) := Nat.le_min.2 ⟨h1, by omega⟩
      generalize Nat.min m (n - m) = q at *
      go_wp2_with fail
      go_region
      go_wp2_with fail
      refine ⟨⟨m + q, by omega, by omega, rfl, ?_, ?_, ?_⟩, by simp [intOf]; omega⟩
      · exact setRow_heap _ _ _ _ _ _ HG.out
      · exact below_setRow (w := World.drew _) ⟨hbl.os, hbl.tape, hbl.output, hbl.size, hbl.block⟩ (Nat.le_refl _) _
      · simp [World.setRow]; exact hsz
    · obtain rfl : m = n := by omega
      have bi : ¬ (m : Int) < (m : Int) := by omega
      have HR := hide (And.intro hbl (And.intro hsz hg))
      clear hg hcp hmk
      go_wp2_with fail
      go_ret
      exact ⟨rfl, HR.out⟩

set_option maxRecDepth 100000 in
/-- slices.Repeat of one number, none of it. -/
theorem repeat_zero (w : World) (b o c : Nat) :
    Calls Tryz.prog 166 #[.slice (some ⟨b, o, none⟩) 1 c, .int .i64 0] w fun e w' => e = .returned (.slice (some ⟨w.heap.size, 0, none⟩) 0 0) ∧ w' = w.alloc (.cells #[] 3) := by
  have HM := hide (mul_one w 0 (by omega))
  obtain ⟨i, hi, hz, hs, hb⟩ := info_parts info3
  have hm : madeCells #[Value.int .i64 0] 0 = #[] := by simp [madeCells]
  have hmk : ∀ w', (Instr.makeSlice 24 (.int .i64 0) (.int .i64 0)).run Tryz.prog w' = .ok (.slice (some ⟨w'.heap.size, 0, none⟩) 0 0) (w'.alloc (.cells #[] 3)) := fun w' => by
    have := make_ints w' 0 (by omega)
    rw [hm] at this
    exact this
  have hcp := run_copy_none (P := Tryz.prog) (w.alloc (.cells #[] 3)) 24 24 3 3 (some ⟨w.heap.size, 0, none⟩) (some ⟨b, o, none⟩) 0 0 1 c Tryz.underlying24 (by rw [hi]; simp [hs]) rfl
  clear hm hi hz hs hb
  go_enter Tryz.func166, Tryz.ntmps166
  go_wp2_with fail
  refine HM.out.mono ?_
  rintro e w9 ⟨rfl, h9⟩
  rw [h9]
  clear h9
  go_wp2_with fail
  refine wp_loop_rounds 1 ?_
  rw [rounds_succ]
  go_wp2_with fail
  go_ret
  exact ⟨rfl, rfl⟩
end Go.Proofs.YtcnmfljpmpgnjaaGreatDoor

namespace Go.Proofs.YtcnmfljpmpgnjaaGreatDoor
open Go.RowKit Go.Maps
open Tm (H Ob Sl Why)

/-- 'add' of an object that was made just before. -/
theorem add_after {S : Nat → Prop} {tag : Nat → Nat × Nat} {w w1 : World} {a : Nat} {Y : PLay} {h : H} {N : Nat} {A : Nat → Addr} (hE : Errs N A w) (hS : ∀ b, S b → N ≤ b) (r : PRep S tag w a Y h) (M : List Bool) (hM : Tm.Marked h M) (ks : List Int) (nm : Int) (x fb : Nat) (bl : BlankAt w w1 x fb ks nm) (hl : ks.length ≤ 32) (hk : ∀ q, q < ks.length → ks.getD q 0 = 1 ∨ ks.getD q 0 = 2) (hnm : nm = -1 ∨ (0 ≤ nm ∧ nm ≤ 1000000000)) (hm : h.l.length + 1 < 4398046511104) :
    Calls Tryz.prog 61 #[.pointer (some ⟨a, 0, none⟩), .pointer (some ⟨x, 0, none⟩)] w1 (HPost S w a A (h.makeBy M ks nm).1.1 (h.makeBy M ks nm).1.2 (h.makeBy M ks nm).2) := by
  have hlo := bl.lo
  have hz := bl.below.size
  refine (addH_any (hE.kept bl.below) hS (r.below bl.below (Nat.le_refl _)) M hM ks nm x fb bl.at' (fun q => by have := r.lt _ q; omega) (fun q => by have := r.lt _ q; omega) bl.ne bl.hi.1 bl.hi.2 bl.soft hl hk hnm hm).mono ?_
  rintro e w' ⟨ev, S', rfl, q1, q2, q3, q4, q5⟩
  refine ⟨ev, S', rfl, q1.mono hz, q2, ⟨q3.os.trans bl.below.os, q3.tape.trans bl.below.tape, q3.output.trans bl.below.output, Nat.le_trans hz q3.size, fun k hk hn => ?_⟩, q4, fun b hb => ?_⟩
  · rw [q3.block k (by omega) (by rintro (q | q | q); exact hn q; omega; omega)]
    exact bl.below.block k hk
  · rcases q5 b hb with q | q | q | q
    · exact Or.inl q
    · exact Or.inr (by omega)
    · exact Or.inr (by omega)
    · exact Or.inr (by omega)

theorem BlankAt.after {w w0 w1 : World} {x fb : Nat} {ks : List Int} {nm : Int} (b : BlankAt w0 w1 x fb ks nm) (h : Below w.heap.size w w0) : BlankAt w w1 x fb ks nm :=
  ⟨h.trans (b.below.mono h.size), ⟨Nat.le_trans h.size b.lo.1, Nat.le_trans h.size b.lo.2⟩, b.hi, b.ne, b.at', b.soft⟩

set_option maxRecDepth 100000 in
set_option maxHeartbeats 4000000 in
theorem makeH_any {S : Nat → Prop} {tag : Nat → Nat × Nat} {w : World} {a : Nat} {Y : PLay} {h : H} {N : Nat} {A : Nat → Addr} (hE : Errs N A w) (hS : ∀ b, S b → N ≤ b) (r : PRep S tag w a Y h) (M : List Bool) (hM : Tm.Marked h M) (c : Int) (hm : h.l.length + 1 < 4398046511104) (hc0 : 0 < h.classes.length) :
    Calls Tryz.prog 25 #[.pointer (some ⟨a, 0, none⟩), .int .i64 c] w (HPost S w a A (h.ofClass M c).1.1 (h.ofClass M c).1.2 (h.ofClass M c).2) := by
  obtain ⟨cp, cc, k1, k2⟩ := r.classes
  have hfew := r.good.few
  obtain ⟨rfl, hSc, htc⟩ := k2 hc0
  have hi := ifaceE
  have g0 := hE.g0
  have HW := fun w' => within_any c 0 ((h.classes.length : Int) - 1) w' (by omega)
  have HR := hide r
  cases hk : Tm.inR c 0 ((h.classes.length : Int) - 1)
  · have e1 : h.ofClass M c = ((0, ⟨1, 0⟩), h) := by unfold H.ofClass H.isClass; rw [hk]; rfl
    rw [e1]
    simp only [hk] at HW
    have HW := fun w' => hide (HW w')
    have HRf := hide (refusal_any (A := A) hE (InErr.bare w 1 (by omega) (by omega)))
    clear e1 r hE hk
    generalize h.classes.length = L at *
    go_enter Tryz.func25, Tryz.ntmps25
    go_wp2_with (first
      | (go_at_call 49; refine ((HW _).out).mono ?_; rintro e w' ⟨rfl, rfl⟩)
      | (go_at_call 50; refine HRf.out.mono ?_; rintro e w' ⟨ev, rfl, he, hb⟩; have HEr := hide he; have HB := hide hb; clear he hb)
      | fail)
    go_ret2
    exact ⟨_, S, rfl, HEr.out, ⟨tag, Y, HR.out.below HB.out (Nat.le_refl _)⟩, Kept.of_below HB.out, fun _ h => h, fun _ h => Or.inl h⟩
  · have hk' : 0 ≤ c ∧ c ≤ (h.classes.length : Int) - 1 := by simpa [Tm.inR] using hk
    obtain ⟨q, rfl⟩ : ∃ q : Nat, c = (q : Int) := ⟨c.toNat, by omega⟩
    have hq : q < h.classes.length := by omega
    have e1 : h.ofClass M (q : Int) = h.makeBy M (h.classes.getD q []) (-1) := by
      unfold H.ofClass H.isClass H.kindsOf; rw [hk, if_pos rfl, Int.toNat_natCast]
    rw [e1]
    obtain ⟨z1, v, z2, z3⟩ := r.clas q hq
    have hcls := r.good.cls q hq
    have HBk := hide (blankO_any (S := S) w v (Y.cb q) (h.classes.getD q []) r.lt z3 (by have := hcls.1; omega))
    have HAd : Hid (∀ w1, BlankAt w w1 (w.heap.size + 1) w.heap.size (h.classes.getD q []) (-1) → Calls Tryz.prog 61 #[.pointer (some ⟨a, 0, none⟩), .pointer (some ⟨w.heap.size + 1, 0, none⟩)] w1 (HPost S w a A (h.makeBy M (h.classes.getD q []) (-1)).1.1 (h.makeBy M (h.classes.getD q []) (-1)).1.2 (h.makeBy M (h.classes.getD q []) (-1)).2)) := fun w1 bl =>
      add_after hE hS r M hM _ (-1) _ _ bl (by have := hcls.1; omega) hcls.2 (Or.inl rfl) hm
    simp only [hk] at HW
    have HW := fun w' => hide (HW w')
    have b1 : (q : Int) < (h.classes.length : Int) := by omega
    clear e1 r hE hk z1 z3 hcls
    generalize h.classes.length = L at *
    generalize h.makeBy M (h.classes.getD q []) (-1) = mk at *
    generalize h.classes.getD q [] = kq at *
    go_enter Tryz.func25, Tryz.ntmps25
    go_wp2_with (first
      | (go_at_call 49; refine ((HW _).out).mono ?_; rintro e w' ⟨rfl, hw⟩; replace hw := hw.symm; subst hw)
      | (go_at_call 62; refine HBk.out.mono ?_; rintro e w1 ⟨rfl, bl⟩; have HA1 := hide (HAd.out w1 bl); clear bl)
      | (go_at_call 61; refine HA1.out.mono ?_; rintro e w' ⟨ev, S', rfl, hq⟩; have HQ := hide hq; clear hq)
      | fail)
    go_ret2
    exact ⟨_, S', rfl, HQ.out⟩

set_option maxRecDepth 100000 in
set_option maxHeartbeats 4000000 in
theorem externH_any {S : Nat → Prop} {tag : Nat → Nat × Nat} {w : World} {a : Nat} {Y : PLay} {h : H} {N : Nat} {A : Nat → Addr} (hE : Errs N A w) (hS : ∀ b, S b → N ≤ b) (r : PRep S tag w a Y h) (M : List Bool) (hM : Tm.Marked h M) (n : Int) (hm : h.l.length + 1 < 4398046511104) :
    Calls Tryz.prog 31 #[.pointer (some ⟨a, 0, none⟩), .int .i64 n] w (HPost S w a A (h.extern M n).1.1 (h.extern M n).1.2 (h.extern M n).2) := by
  have hi := ifaceE
  have g0 := hE.g0
  have HW := fun w' => within_any n 0 1000000000 w' (by omega)
  have HR := hide r
  cases hk : Tm.inR n 0 1000000000
  · have e1 : h.extern M n = ((0, ⟨1, 0⟩), h) := by unfold H.extern; rw [hk]; rfl
    rw [e1]
    simp only [hk] at HW
    have HW := fun w' => hide (HW w')
    have HRf := hide (refusal_any (A := A) hE (InErr.bare w 1 (by omega) (by omega)))
    clear e1 r hE hk
    go_enter Tryz.func31, Tryz.ntmps31
    go_wp2_with (first
      | (go_at_call 49; refine ((HW _).out).mono ?_; rintro e w' ⟨rfl, rfl⟩)
      | (go_at_call 50; refine HRf.out.mono ?_; rintro e w' ⟨ev, rfl, he, hb⟩; have HEr := hide he; have HB := hide hb; clear he hb)
      | fail)
    go_ret2
    exact ⟨_, S, rfl, HEr.out, ⟨tag, Y, HR.out.below HB.out (Nat.le_refl _)⟩, Kept.of_below HB.out, fun _ h => h, fun _ h => Or.inl h⟩
  · have hk' : 0 ≤ n ∧ n ≤ 1000000000 := by simpa [Tm.inR] using hk
    have e1 : h.extern M n = h.makeBy M [] n := by unfold H.extern; rw [hk, if_pos rfl]
    rw [e1]
    have HBk := hide (named_any w n hk'.1)
    have HAd : Hid (∀ w1, BlankAt w w1 w.heap.size w.heap.size [] n → Calls Tryz.prog 61 #[.pointer (some ⟨a, 0, none⟩), .pointer (some ⟨w.heap.size, 0, none⟩)] w1 (HPost S w a A (h.makeBy M [] n).1.1 (h.makeBy M [] n).1.2 (h.makeBy M [] n).2)) := fun w1 bl =>
      add_after hE hS r M hM _ n _ _ bl (by simp) (fun q hq => by simp at hq) (Or.inr hk') hm
    simp only [hk] at HW
    have HW := fun w' => hide (HW w')
    clear e1 r hE hk
    generalize h.makeBy M [] n = mk at *
    go_enter Tryz.func31, Tryz.ntmps31
    go_wp2_with (first
      | (go_at_call 49; refine ((HW _).out).mono ?_; rintro e w' ⟨rfl, hw⟩; replace hw := hw.symm; subst hw)
      | (go_at_call 67; refine HBk.out.mono ?_; rintro e w1 ⟨rfl, bl⟩; have HA1 := hide (HAd.out w1 bl); clear bl)
      | (go_at_call 61; refine HA1.out.mono ?_; rintro e w' ⟨ev, S', rfl, hq⟩; have HQ := hide hq; clear hq)
      | fail)
    go_ret2
    exact ⟨_, S', rfl, HQ.out⟩
end Go.Proofs.YtcnmfljpmpgnjaaGreatDoor

namespace Go.Proofs.YtcnmfljpmpgnjaaGreatDoor
open Go.RowKit Go.Maps
open Tm (H Ob Sl Why)

/-- slices.Repeat of one number. -/
theorem rep_any (w : World) (k : Int) (n b c : Nat) (hn : n ≤ 32) (hx : w.cell? ⟨b, 0, none⟩ = some (.int .i64 k)) (hb : b < w.heap.size) :
    Calls Tryz.prog 166 #[.slice (some ⟨b, 0, none⟩) 1 c, .int .i64 (n : Int)] w fun e w' => ∃ v kb, e = .returned v ∧ Below w.heap.size w w' ∧ IntsV (fun b => b < w'.heap.size) w' v kb (List.replicate n k) := by
  rcases Nat.eq_zero_or_pos n with h0 | h0
  · subst h0
    refine (repeat_zero w b 0 c).mono ?_
    rintro e w' ⟨rfl, rfl⟩
    exact ⟨_, 0, rfl, Below.alloc0 _ _, ⟨_, _, rfl, fun h => by simp at h, fun i hi => by simp at hi⟩⟩
  · refine (repeat_one w k n b 0 c h0 hn hx hb).mono ?_
    rintro e w' ⟨rfl, q1, q2, q3⟩
    refine ⟨_, w.heap.size, rfl, q1, ⟨_, n, by rw [List.length_replicate], fun _ => ⟨rfl, by omega⟩, fun i hi => ?_⟩⟩
    rw [List.length_replicate] at hi
    simp only [World.cell?, q3]
    simp [repRow, List.getD_eq_getElem?_getD, hi]

set_option maxRecDepth 100000 in
set_option maxHeartbeats 4000000 in
theorem arrayH_any {S : Nat → Prop} {tag : Nat → Nat × Nat} {w : World} {a : Nat} {Y : PLay} {h : H} {N : Nat} {A : Nat → Addr} (hE : Errs N A w) (hS : ∀ b, S b → N ≤ b) (r : PRep S tag w a Y h) (M : List Bool) (hM : Tm.Marked h M) (k n : Int) (hm : h.l.length + 1 < 4398046511104) :
    Calls Tryz.prog 147 #[.pointer (some ⟨a, 0, none⟩), .int .i64 k, .int .i64 n] w (HPost S w a A (h.arr M k n).1.1 (h.arr M k n).1.2 (h.arr M k n).2) := by
  have hi := ifaceE
  have g0 := hE.g0
  have HW := fun w' => within_any n 0 32 w' (by omega)
  have HK := fun w' => badKind_any k w'
  have HR := hide r
  have HRf := hide (refusal_any (A := A) hE (InErr.bare w 1 (by omega) (by omega)))
  cases hk : Tm.inR k 1 2
  · have e1 : h.arr M k n = ((0, ⟨1, 0⟩), h) := by unfold H.arr Tm.isArray; rw [hk]; rfl
    rw [e1]
    simp only [hk] at HK
    have HK := fun w' => hide (HK w')
    clear e1 r hE hk
    go_enter Tryz.func147, Tryz.ntmps147
    go_wp2_with (first
      | (go_at_call 129; refine ((HK _).out).mono ?_; rintro e w' ⟨rfl, hw⟩; replace hw := hw.symm; subst hw)
      | (go_at_call 50; refine HRf.out.mono ?_; rintro e w' ⟨ev, rfl, he, hb⟩; have HEr := hide he; have HB := hide hb; clear he hb)
      | fail)
    go_ret2
    exact ⟨_, S, rfl, HEr.out, ⟨tag, Y, HR.out.below HB.out (Nat.le_refl _)⟩, Kept.of_below HB.out, fun _ h => h, fun _ h => Or.inl h⟩
  · simp only [hk] at HK
    have HK := fun w' => hide (HK w')
    cases hn : Tm.inR n 0 32
    · have e1 : h.arr M k n = ((0, ⟨1, 0⟩), h) := by unfold H.arr Tm.isArray; rw [hk, hn]; rfl
      rw [e1]
      simp only [hn] at HW
      have HW := fun w' => hide (HW w')
      clear e1 r hE hk hn
      go_enter Tryz.func147, Tryz.ntmps147
      go_wp2_with (first
        | (go_at_call 129; refine ((HK _).out).mono ?_; rintro e w' ⟨rfl, hw⟩; replace hw := hw.symm; subst hw)
        | (go_at_call 49; refine ((HW _).out).mono ?_; rintro e w' ⟨rfl, hw⟩; replace hw := hw.symm; subst hw)
        | (go_at_call 50; refine HRf.out.mono ?_; rintro e w' ⟨ev, rfl, he, hb⟩; have HEr := hide he; have HB := hide hb; clear he hb)
        | fail)
      go_ret2
      exact ⟨_, S, rfl, HEr.out, ⟨tag, Y, HR.out.below HB.out (Nat.le_refl _)⟩, Kept.of_below HB.out, fun _ h => h, fun _ h => Or.inl h⟩
    · have hk' : 1 ≤ k ∧ k ≤ 2 := by simpa [Tm.inR] using hk
      have hn' : 0 ≤ n ∧ n ≤ 32 := by simpa [Tm.inR] using hn
      obtain ⟨q, rfl⟩ : ∃ q : Nat, n = (q : Int) := ⟨n.toNat, by omega⟩
      have e1 : h.arr M k (q : Int) = h.makeBy M (List.replicate q k) (-1) := by unfold H.arr Tm.isArray; rw [hk, hn, Int.toNat_natCast]; rfl
      rw [e1]
      simp only [hn] at HW
      have HW := fun w' => hide (HW w')
      have HRp := hide (rep_any (w.alloc (.cells #[.int .i64 k] 3)) k q w.heap.size 1 (by omega) (by rw [World.cell?_alloc_new]; rfl) (by simp))
      have HBk : Hid (∀ w1 v kb, Below w.heap.size w w1 → IntsV (fun b => b < w1.heap.size) w1 v kb (List.replicate q k) → Calls Tryz.prog 62 #[v] w1 fun e w' => ∃ x fb, e = .returned (.pointer (some ⟨x, 0, none⟩)) ∧ BlankAt w w' x fb (List.replicate q k) (-1)) := fun w1 v kb hb hv => by
        refine (blankO_any (S := fun b => b < w1.heap.size) w1 v kb (List.replicate q k) (fun b hb => hb) hv (by rw [List.length_replicate]; omega)).mono ?_
        rintro e w' ⟨rfl, bl⟩
        exact ⟨_, _, rfl, bl.after hb⟩
      have HAd : Hid (∀ w1 x fb, BlankAt w w1 x fb (List.replicate q k) (-1) → Calls Tryz.prog 61 #[.pointer (some ⟨a, 0, none⟩), .pointer (some ⟨x, 0, none⟩)] w1 (HPost S w a A (h.makeBy M (List.replicate q k) (-1)).1.1 (h.makeBy M (List.replicate q k) (-1)).1.2 (h.makeBy M (List.replicate q k) (-1)).2)) := fun w1 x fb bl =>
        add_after hE hS r M hM _ (-1) _ _ bl (by rw [List.length_replicate]; omega) (fun i hi => by
          rw [List.length_replicate] at hi
          simp only [List.getD_eq_getElem?_getD, List.getElem?_replicate, hi, if_true, Option.getD_some]
          omega) (Or.inl rfl) hm
      clear e1 r hE hk hn
      generalize h.makeBy M (List.replicate q k) (-1) = mk at *
      go_enter Tryz.func147, Tryz.ntmps147
      go_wp2_with (first
        | (go_at_call 129; refine ((HK _).out).mono ?_; rintro e w' ⟨rfl, hw⟩; replace hw := hw.symm; subst hw)
        | (go_at_call 49; refine ((HW _).out).mono ?_; rintro e w' ⟨rfl, hw⟩; replace hw := hw.symm; subst hw)
        | (go_at_call 166; refine HRp.out.mono ?_; rintro e w1 ⟨v, kb, rfl, hb1, hv⟩; have HBl := hide (HBk.out w1 v kb ((Below.alloc0 w _).trans (hb1.mono (by simp))) hv); clear hb1 hv)
        | (go_at_call 62; refine HBl.out.mono ?_; rintro e w2 ⟨x, fb, rfl, bl⟩; have HA1 := hide (HAd.out w2 x fb bl); clear bl)
        | (go_at_call 61; refine HA1.out.mono ?_; rintro e w' ⟨ev, S', rfl, hq⟩; have HQ := hide hq; clear hq)
        | fail)
      go_ret2
      exact ⟨_, S', rfl, HQ.out⟩
end Go.Proofs.YtcnmfljpmpgnjaaGreatDoor
