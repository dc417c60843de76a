import Derived.Test.YtcnmfljpmpgnjaaGreatDoorRows
import Derived.WalkKit
import Derived.Deep.QuietTactic
import Derived.BigQuiet
namespace Go.Proofs.YtcnmfljpmpgnjaaGreatDoor
namespace Tm

/-- The document's heap, as plain data. -/
structure Why where
  reason : Int
  handle : Int
structure Ob where
  kinds : List Int
  vals : List Int
  pins : Int
  name : Int
  gone : Bool
structure Sl where
  gen : Int
  ob : Int
  frame : Int
structure H where
  room : Int
  l : List Ob
  t : Nat → List Sl
  frames : Int
  ended : List Int
  classes : List (List Int)

def ob0 : Ob := ⟨[], [], 0, 0, false⟩
def sl0 : Sl := ⟨0, 0, 0⟩
def fine : Why := ⟨0, 0⟩

def inR (n lo hi : Int) : Bool := decide (lo ≤ n ∧ n ≤ hi)

/-- The least slot of a table that can be taken, counted from i; -1: none. -/
def freeFrom : List Sl → Int → Int
  | [], _ => -1
  | s :: r, i => if s.ob = 0 ∧ s.gen < 50 then i else freeFrom r (i + 1)

def H.free (h : H) (k : Nat) : Int := freeFrom (h.t k) 0

def H.slot (h : H) (w : Int) : Int :=
  if w ≤ 0 ∨ w % 4 = 0 ∨ ((h.t (w % 4).toNat).length : Int) ≤ w / 4 % 64 then -1
  else if 1 ≤ w / 256 ∧ w / 256 ≤ 50 then w / 4 % 64 else -1

def H.sl (h : H) (k i : Nat) : Sl := (h.t k).getD i sl0
def H.ob (h : H) (n : Int) : Ob := h.l.getD (n - 1).toNat ob0

def H.of (h : H) (w : Int) : Int × Why :=
  if w = 0 then (0, ⟨2, w⟩) else
  if h.slot w < 0 then (0, ⟨3, w⟩) else
  if (h.sl (w % 4).toNat (h.slot w).toNat).ob = 0 ∨ (h.sl (w % 4).toNat (h.slot w).toNat).gen ≠ w / 256 then (0, ⟨4, w⟩)
  else ((h.sl (w % 4).toNat (h.slot w).toNat).ob, fine)

def H.object (h : H) (w : Int) : Int × Why :=
  if (h.of w).2.reason = 0 ∧ (h.ob (h.of w).1).gone = true then (0, ⟨5, w⟩) else h.of w

def H.perhaps (h : H) (w : Int) : Int × Why := if w = 0 then (0, fine) else h.object w

def H.setSl (h : H) (k i : Nat) (s : Sl) : H := { h with t := fun j => if j = k then (h.t k).set i s else h.t j }

/-- A slot is taken (one can be): the handle, and the heap behind it. -/
def H.take (h : H) (k : Nat) (n : Int) : Int × H :=
  ((k : Int) + 4 * h.free k + 256 * ((h.sl k (h.free k).toNat).gen + 1),
   h.setSl k (h.free k).toNat ⟨(h.sl k (h.free k).toNat).gen + 1, n, h.frames⟩)

def roomOf : List Ob → Int
  | [] => 0
  | o :: r => (if o.gone then 0 else 1 + (o.kinds.length : Int)) + roomOf r
def countOf : List Ob → Int
  | [] => 0
  | o :: r => (if o.gone then 0 else 1) + countOf r
def takenOf : List Sl → Int
  | [] => 0
  | s :: r => (if s.ob = 0 then 0 else 1) + takenOf r

def H.hasField (h : H) (n : Int) (i : Int) (kind : Int) : Bool :=
  decide (0 ≤ i ∧ i < ((h.ob n).kinds.length : Int) ∧ (h.ob n).kinds.getD i.toNat 0 = kind)

def H.get (h : H) (w i : Int) : Int × Why :=
  if (h.object w).2.reason ≠ 0 then (0, (h.object w).2) else
  if h.hasField (h.object w).1 i 1 then ((h.ob (h.object w).1).vals.getD i.toNat 0, fine) else (0, ⟨6, 0⟩)

def H.setVal (h : H) (j m : Nat) (v : Int) : H :=
  { h with l := h.l.set j { h.l.getD j ob0 with vals := (h.l.getD j ob0).vals.set m v } }

def H.set (h : H) (w i v : Int) : Why × H :=
  if (h.object w).2.reason ≠ 0 then ((h.object w).2, h) else
  if inR v (-1000000000) 1000000000 = false then (⟨1, 0⟩, h) else
  if h.hasField (h.object w).1 i 1 then (fine, h.setVal ((h.object w).1 - 1).toNat i.toNat v) else (⟨6, 0⟩, h)

theorem roomOf_append (l r : List Ob) : roomOf (l ++ r) = roomOf l + roomOf r := by
  induction l with
  | nil => simp [roomOf]
  | cons o l ih => simp only [List.cons_append, roomOf, ih]; omega
theorem countOf_append (l r : List Ob) : countOf (l ++ r) = countOf l + countOf r := by
  induction l with
  | nil => simp [countOf]
  | cons o l ih => simp only [List.cons_append, countOf, ih]; omega
theorem takenOf_append (l r : List Sl) : takenOf (l ++ r) = takenOf l + takenOf r := by
  induction l with
  | nil => simp [takenOf]
  | cons o l ih => simp only [List.cons_append, takenOf, ih]; omega

theorem take_getD {α : Type} (l : List α) (d : α) (k : Nat) (h : k < l.length) : l.take (k + 1) = l.take k ++ [l.getD k d] := by
  rw [List.take_succ_eq_append_getElem h]; simp [List.getD_eq_getElem?_getD, List.getElem?_eq_getElem h]

theorem getD_set {α : Type} (l : List α) (d x : α) (j i : Nat) (h : j < l.length) : (l.set j x).getD i d = if i = j then x else l.getD i d := by
  simp only [List.getD_eq_getElem?_getD, List.getElem?_set]
  by_cases e : j = i
  · subst e; simp [h]
  · rw [if_neg e, if_neg (fun h => e h.symm)]

/-- Who comes to what. -/
def Root (h : H) (n : Nat) : Prop :=
  (∃ k i, (k = 1 ∨ k = 2) ∧ i < (h.t k).length ∧ (h.sl k i).ob = (n : Int)) ∨ ∃ j, j < h.l.length ∧ n = j + 1 ∧ 0 < (h.l.getD j ob0).pins ∧ (h.l.getD j ob0).gone = false
def Edge (h : H) (m n : Nat) : Prop :=
  ∃ j q, j < h.l.length ∧ m = j + 1 ∧ q < (h.l.getD j ob0).kinds.length ∧ (h.l.getD j ob0).kinds.getD q 0 = 2 ∧ (h.l.getD j ob0).vals.getD q 0 = (n : Int) ∧ n ≠ 0
def Reach (h : H) (n : Nat) : Prop := ∀ P : Nat → Prop, (∀ m, Root h m → P m) → (∀ m k, P m → Edge h m k → P k) → P n

theorem Reach.root {h : H} {n : Nat} (r : Root h n) : Reach h n := fun _ h1 _ => h1 n r
theorem Reach.edge {h : H} {m n : Nat} (r : Reach h m) (e : Edge h m n) : Reach h n := fun P h1 h2 => h2 m n (r P h1 h2) e

def cf : List Bool → Nat
  | [] => 0
  | b :: r => (if b then 0 else 1) + cf r
theorem cf_set_le (M : List Bool) (i : Nat) : cf (M.set i true) ≤ cf M := by
  induction M generalizing i with
  | nil => simp
  | cons b r ih =>
    cases i with
    | zero => simp only [List.set_cons_zero, cf]; cases b <;> simp
    | succ i => simp only [List.set_cons_succ, cf]; have := ih i; omega
theorem cf_set_lt (M : List Bool) (i : Nat) (hi : i < M.length) (h : M.getD i false = false) : cf (M.set i true) < cf M := by
  induction M generalizing i with
  | nil => simp at hi
  | cons b r ih =>
    cases i with
    | zero => simp at h; subst h; simp [cf]
    | succ i => simp only [List.set_cons_succ, cf]; have := ih i (by simpa using hi) (by simpa using h); omega
theorem getD_set_true (M : List Bool) (i j : Nat) (h : M.getD j false = true) : (M.set i true).getD j false = true := by
  simp only [List.getD_eq_getElem?_getD, List.getElem?_set] at *
  split
  · rename_i e; subst e; split
    · rfl
    · rename_i h1; rw [List.getElem?_eq_none (by omega)] at h; simp at h
  · exact h

def H.setGone0 (h : H) (j : Nat) : H := { h with l := h.l.set j { h.l.getD j ob0 with gone := true } }
def H.tell (h : H) (x : Int) : H := { h with ended := h.ended ++ [x] }
/-- An object ends; its name, if it has one, is to be told. -/
def H.setGone (h : H) (j : Nat) : H := if 0 ≤ (h.l.getD j ob0).name then (h.setGone0 j).tell (h.l.getD j ob0).name else h.setGone0 j
theorem setGone_l (h : H) (j : Nat) : (h.setGone j).l = h.l.set j { h.l.getD j ob0 with gone := true } := by unfold H.setGone; split <;> rfl
theorem setGone_t (h : H) (j : Nat) : (h.setGone j).t = h.t ∧ (h.setGone j).room = h.room ∧ (h.setGone j).frames = h.frames ∧ (h.setGone j).classes = h.classes := by unfold H.setGone; split <;> exact ⟨rfl, rfl, rfl, rfl⟩
/-- What a collection leaves, having looked at the first i objects; how many it let go. -/
def H.collTo (h : H) (M : List Bool) : Nat → H
  | 0 => h
  | i + 1 => if M.getD (i + 1) false = false ∧ (h.l.getD i ob0).gone = false then (h.collTo M i).setGone i else h.collTo M i
def H.collNum (h : H) (M : List Bool) : Nat → Int
  | 0 => 0
  | i + 1 => (if M.getD (i + 1) false = false ∧ (h.l.getD i ob0).gone = false then 1 else 0) + h.collNum M i
/-- The marks are those that are reached. -/
def Marked (h : H) (M : List Bool) : Prop := M.length = h.l.length + 1 ∧ ∀ n, n < M.length → (M.getD n false = true ↔ Reach h n)

theorem collTo_len (h : H) (M : List Bool) (i : Nat) : (h.collTo M i).l.length = h.l.length := by
  induction i with
  | zero => rfl
  | succ i ih => unfold H.collTo; split <;> simp [setGone_l, ih]
theorem collTo_later (h : H) (M : List Bool) (i j : Nat) (hj : i ≤ j) : (h.collTo M i).l.getD j ob0 = h.l.getD j ob0 := by
  induction i with
  | zero => rfl
  | succ i ih =>
    unfold H.collTo
    split
    · have hl := collTo_len h M i
      rw [setGone_l]
      simp only [List.getD_eq_getElem?_getD, List.getElem?_set]
      rw [if_neg (by omega)]
      have := ih (by omega)
      simpa only [List.getD_eq_getElem?_getD] using this
    · exact ih (by omega)
theorem collNum_bd (h : H) (M : List Bool) (i : Nat) : 0 ≤ h.collNum M i ∧ h.collNum M i ≤ (i : Int) := by
  induction i with
  | zero => simp [H.collNum]
  | succ i ih => unfold H.collNum; split <;> omega

def H.grown (h : H) (ks : List Int) (name : Int) : H := { h with l := h.l ++ [⟨ks, List.replicate ks.length 0, 0, name, false⟩] }
/-- What the heap is when room was asked for. -/
def H.roomy (h : H) (M : List Bool) (ks : List Int) : H := if h.room < roomOf h.l + (1 + (ks.length : Int)) then h.collTo M h.l.length else h
def H.makeBy (h : H) (M : List Bool) (ks : List Int) (name : Int) : (Int × Why) × H :=
  if h.free 1 < 0 then ((0, ⟨7, 0⟩), h) else
  if (h.roomy M ks).room < roomOf (h.roomy M ks).l + (1 + (ks.length : Int)) then ((0, ⟨8, 0⟩), h.roomy M ks) else
  (((((h.roomy M ks).grown ks name).take 1 ((h.l.length : Int) + 1)).1, fine), (((h.roomy M ks).grown ks name).take 1 ((h.l.length : Int) + 1)).2)

theorem collTo_same (h : H) (M : List Bool) (i : Nat) : (h.collTo M i).t = h.t ∧ (h.collTo M i).room = h.room ∧ (h.collTo M i).frames = h.frames ∧ (h.collTo M i).classes = h.classes := by
  induction i with
  | zero => exact ⟨rfl, rfl, rfl, rfl⟩
  | succ i ih => unfold H.collTo; split; (obtain ⟨q1, q2, q3, q4⟩ := setGone_t (h.collTo M i) i; rw [q1, q2, q3, q4]; exact ih); exact ih
/-- The names of what a collection ends, among the first i objects. -/
def H.collNames (h : H) (M : List Bool) : Nat → List Int
  | 0 => []
  | i + 1 => if (M.getD (i + 1) false = false ∧ (h.l.getD i ob0).gone = false) ∧ 0 ≤ (h.l.getD i ob0).name then h.collNames M i ++ [(h.l.getD i ob0).name] else h.collNames M i
theorem collTo_ended (h : H) (M : List Bool) (i : Nat) : (h.collTo M i).ended = h.ended ++ h.collNames M i := by
  induction i with
  | zero => simp [H.collTo, H.collNames]
  | succ i ih =>
    unfold H.collTo H.collNames
    have hl := collTo_later h M i i (Nat.le_refl _)
    by_cases hc : M.getD (i + 1) false = false ∧ (h.l.getD i ob0).gone = false
    · rw [if_pos hc]
      unfold H.setGone
      rw [hl]
      by_cases hn : 0 ≤ (h.l.getD i ob0).name
      · rw [if_pos hn, if_pos ⟨hc, hn⟩]
        show (h.collTo M i).ended ++ _ = _
        rw [ih, List.append_assoc]
      · rw [if_neg hn, if_neg (fun q => hn q.2)]
        exact ih
    · rw [if_neg hc, if_neg (fun q => hc q.1)]; exact ih
/-- There are no more names to be told than objects that have ended. -/
def H.toldOK (h : H) : Prop := (h.ended.length : Int) + countOf h.l ≤ (h.l.length : Int)
theorem countOf_bd0 (l : List Ob) : 0 ≤ countOf l := by
  induction l with
  | nil => exact Int.le_refl _
  | cons a l ih => simp only [countOf]; split <;> omega
theorem countOf_gone (l : List Ob) (j : Nat) (o : Ob) (hj : j < l.length) (hg : (l.getD j ob0).gone = false) (h : o.gone = true) : countOf (l.set j o) = countOf l - 1 := by
  induction l generalizing j with
  | nil => simp at hj
  | cons a l ih =>
    cases j with
    | zero => simp at hg; simp only [List.set_cons_zero, countOf]; rw [h, hg]; simp; omega
    | succ j => simp only [List.set_cons_succ, countOf]; rw [ih j (by simpa using hj) (by simpa using hg)]; omega
theorem setGone_told {h : H} (ht : h.toldOK) (j : Nat) (hj : j < h.l.length) (hg : (h.l.getD j ob0).gone = false) : (h.setGone j).toldOK := by
  unfold H.toldOK at *
  rw [setGone_l, countOf_gone _ _ _ hj hg rfl, List.length_set]
  have : (h.setGone j).ended.length ≤ h.ended.length + 1 := by
    unfold H.setGone
    split
    · simp [H.tell, H.setGone0]
    · simp [H.setGone0]
  omega
theorem collTo_told {h : H} (ht : h.toldOK) (M : List Bool) (i : Nat) (hi : i ≤ h.l.length) : (h.collTo M i).toldOK := by
  induction i with
  | zero => exact ht
  | succ i ih =>
    unfold H.collTo
    split
    · rename_i e
      exact setGone_told (ih (by omega)) i (by rw [collTo_len]; omega) (by rw [collTo_later _ _ _ _ (Nat.le_refl _)]; exact e.2)
    · exact ih (by omega)
theorem told_len {h : H} (ht : h.toldOK) : h.ended.length ≤ h.l.length := by
  unfold H.toldOK at ht
  have := countOf_bd0 h.l
  omega
theorem roomy_same (h : H) (M : List Bool) (ks : List Int) : (h.roomy M ks).t = h.t ∧ (h.roomy M ks).room = h.room ∧ (h.roomy M ks).l.length = h.l.length := by
  unfold H.roomy
  split
  · exact ⟨(collTo_same _ _ _).1, (collTo_same _ _ _).2.1, collTo_len _ _ _⟩
  · exact ⟨rfl, rfl, rfl⟩

/-- Whether a collection is made. -/
def H.needs (h : H) (ks : List Int) : Prop := 0 ≤ h.free 1 ∧ h.room < roomOf h.l + (1 + (ks.length : Int))
def H.kindsOf (h : H) (c : Int) : List Int := h.classes.getD c.toNat []
def H.isClass (h : H) (c : Int) : Bool := inR c 0 ((h.classes.length : Int) - 1)
def H.ofClass (h : H) (M : List Bool) (c : Int) : (Int × Why) × H := if h.isClass c then h.makeBy M (h.kindsOf c) (-1) else ((0, ⟨1, 0⟩), h)
def isArray (kind n : Int) : Bool := inR kind 1 2 && inR n 0 32
def H.arr (h : H) (M : List Bool) (kind n : Int) : (Int × Why) × H := if isArray kind n then h.makeBy M (List.replicate n.toNat kind) (-1) else ((0, ⟨1, 0⟩), h)

def H.extern (h : H) (M : List Bool) (name : Int) : (Int × Why) × H := if inR name 0 1000000000 then h.makeBy M [] name else ((0, ⟨1, 0⟩), h)
def H.told (h : H) : H := { h with ended := [] }

end Tm
end Go.Proofs.YtcnmfljpmpgnjaaGreatDoor

namespace Go.Proofs.YtcnmfljpmpgnjaaGreatDoor
open Go.RowKit
open Tm (H Ob Sl Why)

theorem Below.alloc0 (w : World) (o : Obj) : Below w.heap.size w (w.alloc o) := (Below.refl _ _).alloc (Nat.le_refl _) _

theorem hide {p : Prop} (h : p) : Hid p := h

theorem drop_getD (l : List Sl) (j : Nat) (h : j < l.length) : l.drop j = l.getD j Tm.sl0 :: l.drop (j + 1) := by
  rw [List.drop_eq_getElem_cons h]; simp [List.getD_eq_getElem?_getD, List.getElem?_eq_getElem h]

/-- Blocks that read alike. -/
def Same (S : Nat → Prop) (w w' : World) : Prop := ∀ b, S b → w'.heap[b]? = w.heap[b]?

theorem Same.cell {S : Nat → Prop} {w w' : World} (h : Same S w w') {b i : Nat} (hb : S b) : w'.cell? ⟨b, i, none⟩ = w.cell? ⟨b, i, none⟩ := World.cell?_of_block (w := w) (h b hb)

theorem Same.frozen {S : Nat → Prop} {w w' : World} (h : Same S w w') {b i : Nat} (hb : S b) : w'.frozen? ⟨b, i, none⟩ = w.frozen? ⟨b, i, none⟩ := World.frozen?_of_block (w := w) (h b hb)

theorem Same.below {S : Nat → Prop} {w w' : World} {B : Nat} (h : Below B w w') (hS : ∀ b, S b → b < B) : Same S w w' := fun b hb => h.block b (hS b hb)

theorem slot_bd (h : H) (x : Int) (hs : ¬ h.slot x < 0) : 0 < x ∧ ¬ x % 4 = 0 ∧ h.slot x = x / 4 % 64 ∧ h.slot x < ((h.t (x % 4).toNat).length : Int) ∧ 1 ≤ x / 256 ∧ x / 256 ≤ 50 := by
  unfold H.slot at *
  split at hs
  · simp at hs
  · rename_i h1
    split at hs
    · rename_i h2
      rw [if_neg h1, if_pos h2]
      omega
    · simp at hs

/-- A slice of ints in memory. -/
def IntsV (S : Nat → Prop) (w : World) (v : Value) (b : Nat) (l : List Int) : Prop :=
  ∃ p c, v = .slice p l.length c ∧ (0 < l.length → p = some ⟨b, 0, none⟩ ∧ S b) ∧ ∀ i, i < l.length → w.cell? ⟨b, i, none⟩ = some (.int .i64 (l.getD i 0))

theorem IntsV.same {S : Nat → Prop} {w w' : World} {v : Value} {b : Nat} {l : List Int} (h : IntsV S w v b l) (hs : Same S w w') : IntsV S w' v b l := by
  obtain ⟨p, c, e, h1, h2⟩ := h
  exact ⟨p, c, e, h1, fun i hi => by rw [hs.cell (h1 (by omega)).2]; exact h2 i hi⟩

theorem ob_succ (h : H) (j : Nat) : h.ob ((j : Int) + 1) = h.l.getD j Tm.ob0 := by
  unfold H.ob
  rw [show ((j : Int) + 1 - 1).toNat = j from by omega]

theorem num_of {n : Int} {m : Nat} (h0 : 0 < n) (h1 : n ≤ (m : Int)) : ∃ j : Nat, j < m ∧ n = (j : Int) + 1 := ⟨(n - 1).toNat, by omega, by omega⟩

theorem cell_of {w w' : World} {b i : Nat} (h : w'.heap[b]? = w.heap[b]?) : w'.cell? ⟨b, i, none⟩ = w.cell? ⟨b, i, none⟩ := World.cell?_of_block (w := w) h

theorem frozen_of {w w' : World} {b i : Nat} (h : w'.heap[b]? = w.heap[b]?) : w'.frozen? ⟨b, i, none⟩ = w.frozen? ⟨b, i, none⟩ := World.frozen?_of_block (w := w) h

theorem IntsV.at {S : Nat → Prop} {w w' : World} {v : Value} {b : Nat} {l : List Int} (h : IntsV S w v b l) (hs : 0 < l.length → w'.heap[b]? = w.heap[b]?) : IntsV S w' v b l := by
  obtain ⟨p, c, e, h1, h2⟩ := h
  exact ⟨p, c, e, h1, fun i hi => by rw [cell_of (hs (by omega))]; exact h2 i hi⟩

/-- Blocks outside S are as they were. -/
structure Kept (S : Nat → Prop) (w w' : World) : Prop where
  os : w'.os = w.os
  tape : w'.tape = w.tape
  output : w'.output = w.output
  size : w.heap.size ≤ w'.heap.size
  block : ∀ k, k < w.heap.size → ¬ S k → w'.heap[k]? = w.heap[k]?

theorem Kept.of_below {S : Nat → Prop} {w w' : World} (h : Below w.heap.size w w') : Kept S w w' := ⟨h.os, h.tape, h.output, h.size, fun k hk _ => h.block k hk⟩

theorem Kept.refl (S : Nat → Prop) (w : World) : Kept S w w := ⟨rfl, rfl, rfl, Nat.le_refl _, fun _ _ _ => rfl⟩

theorem Kept.trans {S : Nat → Prop} {a b c : World} (h : Kept S a b) (k : Kept S b c) : Kept S a c :=
  ⟨k.os.trans h.os, k.tape.trans h.tape, k.output.trans h.output, Nat.le_trans h.size k.size, fun i hi hs => (k.block i (Nat.lt_of_lt_of_le hi h.size) hs).trans (h.block i hi hs)⟩

theorem Kept.drew {S : Nat → Prop} {a w : World} (h : Kept S a w) : Kept S a w.drew := ⟨h.os, h.tape, h.output, h.size, h.block⟩

theorem Kept.alloc {S : Nat → Prop} {a w : World} (h : Kept S a w) (o : Obj) : Kept S a (w.alloc o) := h.trans (Kept.of_below (Below.alloc0 w o))

/-- A store into a block of S, or into one that is new. -/
theorem Kept.setCell {S : Nat → Prop} {a w : World} (h : Kept S a w) {p : Addr} (hp : S p.block ∨ a.heap.size ≤ p.block) (u : Value) : Kept S a (w.setCell p u) :=
  ⟨h.os, h.tape, h.output, by rw [World.size_setCell]; exact h.size, fun k hk hs => by
    rw [Below.heap_setCell w p u k (fun e => by subst e; rcases hp with hp | hp; exact hs hp; omega)]
    exact h.block k hk hs⟩

theorem ret_int {k : IntKind} {a b : Int} (h : a = b) : Ending.returned (.int k a) = .returned (.int k b) := by rw [h]

theorem ret_bool {a b : Bool} (h : a = b) : Ending.returned (.bool a) = .returned (.bool b) := by rw [h]

theorem freeFrom_bd (l : List Sl) (i : Int) (hi : 0 ≤ i) (h : 0 ≤ Tm.freeFrom l i) : ∃ j : Nat, j < l.length ∧ Tm.freeFrom l i = i + j ∧ (l.getD j Tm.sl0).ob = 0 ∧ (l.getD j Tm.sl0).gen < 50 := by
  induction l generalizing i with
  | nil => simp [Tm.freeFrom] at h
  | cons s r ih =>
    rw [Tm.freeFrom] at h ⊢
    by_cases hc : s.ob = 0 ∧ s.gen < 50
    · rw [if_pos hc]
      exact ⟨0, by simp, by simp, hc.1, hc.2⟩
    · rw [if_neg hc] at h ⊢
      obtain ⟨j, h1, h2, h3, h4⟩ := ih (i + 1) (by omega) h
      exact ⟨j + 1, by simpa using h1, by omega, by simpa using h3, by simpa using h4⟩

theorem IntsV.sub {S S' : Nat → Prop} {w : World} {v : Value} {b : Nat} {l : List Int} (h : IntsV S w v b l) (hs : ∀ b, S b → S' b) : IntsV S' w v b l := by
  obtain ⟨p, c, e, h1, h2⟩ := h
  exact ⟨p, c, e, fun h0 => ⟨(h1 h0).1, hs _ (h1 h0).2⟩, h2⟩

theorem info3 : (Tryz.prog.info? 3).map (fun i => (i.zero, i.size, i.bytes)) = some (some (.int .i64 0), 1, 8) := by kernel_rfl

theorem make_ints (w : World) (n : Nat) (hn : n ≤ 35184372088832) :
    (Instr.makeSlice 24 (.int .i64 (n : Int)) (.int .i64 (n : Int))).run Tryz.prog w = .ok (.slice (some ⟨w.heap.size, 0, none⟩) n n) (w.alloc (.cells (madeCells #[.int .i64 0] n) 3)) := by
  obtain ⟨i3, hi3, hz0, hz1, hz2⟩ := info_parts info3
  have := run_make (P := Tryz.prog) w 24 3 i3 _ Tryz.underlying24 hi3 hz0 .i64 .i64 (n : Int) (n : Int) (by omega) (by omega) (by rw [hz2]; omega) (by omega)
  rw [hz1, Nat.mul_one, Int.toNat_natCast] at this
  exact this

theorem Kept.drewN {S : Nat → Prop} {a w : World} (h : Kept S a w) (n : Nat) : Kept S a (w.drewN n) := ⟨h.os, h.tape, h.output, h.size, h.block⟩
end Go.Proofs.YtcnmfljpmpgnjaaGreatDoor

namespace Go.Proofs.YtcnmfljpmpgnjaaGreatDoor
namespace Tm

/-- P7: Same. -/
def H.same (h : H) (x y : Int) : Bool × Why :=
  if (h.perhaps x).2.reason ≠ 0 then (false, (h.perhaps x).2) else
  if (h.perhaps y).2.reason ≠ 0 then (false, (h.perhaps y).2) else ((h.perhaps x).1 == (h.perhaps y).1, fine)

/-- P7: Free. -/
def H.freed (h : H) (x : Int) : Why × H :=
  if (h.of x).2.reason ≠ 0 then ((h.of x).2, h) else
  (fine, h.setSl (x % 4).toNat (x / 4 % 64).toNat { h.sl (x % 4).toNat (x / 4 % 64).toNat with ob := 0 })

/-- P7: Ref. -/
def H.ref (h : H) (k x : Int) : (Int × Why) × H :=
  if inR k 1 3 = false then ((0, ⟨1, 0⟩), h) else
  if (h.object x).2.reason ≠ 0 then ((0, (h.object x).2), h) else
  if h.free k.toNat < 0 then ((0, ⟨7, 0⟩), h) else
  (((h.take k.toNat (h.object x).1).1, fine), (h.take k.toNat (h.object x).1).2)

/-- P6: Point. -/
def H.point (h : H) (x i y : Int) : Why × H :=
  if (h.object x).2.reason ≠ 0 then ((h.object x).2, h) else
  if (h.perhaps y).2.reason ≠ 0 then ((h.perhaps y).2, h) else
  if h.hasField (h.object x).1 i 2 then (fine, h.setVal ((h.object x).1 - 1).toNat i.toNat (h.perhaps y).1) else (⟨6, 0⟩, h)

/-- P6: Follow. -/
def H.follow (h : H) (x i : Int) : (Int × Why) × H :=
  if (h.object x).2.reason ≠ 0 then ((0, (h.object x).2), h) else
  if h.hasField (h.object x).1 i 2 = false then ((0, ⟨6, 0⟩), h) else
  if (h.ob (h.object x).1).vals.getD i.toNat 0 = 0 then ((0, fine), h) else
  if h.free 1 < 0 then ((0, ⟨7, 0⟩), h) else
  (((h.take 1 ((h.ob (h.object x).1).vals.getD i.toNat 0)).1, fine), (h.take 1 ((h.ob (h.object x).1).vals.getD i.toNat 0)).2)

/-- P8: Push. -/
def H.push (h : H) : Why × H := if 6 ≤ h.frames then (⟨9, 0⟩, h) else (fine, { h with frames := h.frames + 1 })

def H.setPins (h : H) (j : Nat) (v : Int) : H := { h with l := h.l.set j { h.l.getD j ob0 with pins := v } }
/-- P9. -/
def H.pin (h : H) (x : Int) : Why × H :=
  if (h.object x).2.reason ≠ 0 then ((h.object x).2, h) else
  if 3 ≤ (h.ob (h.object x).1).pins then (⟨10, 0⟩, h) else (fine, h.setPins ((h.object x).1 - 1).toNat ((h.ob (h.object x).1).pins + 1))
def H.unpin (h : H) (x : Int) : Why × H :=
  if (h.object x).2.reason ≠ 0 then ((h.object x).2, h) else
  if (h.ob (h.object x).1).pins = 0 then (⟨10, 0⟩, h) else (fine, h.setPins ((h.object x).1 - 1).toNat ((h.ob (h.object x).1).pins - 1))

/-- P8: Pop. -/
def popSl (f : Int) (s : Sl) : Sl := if s.frame = f then { s with ob := 0 } else s
def H.popped (h : H) : H := { h with t := fun j => if j = 1 then (h.t 1).map (popSl h.frames) else h.t j }
/-- The first i slots of the last frame are free. -/
def H.popTo (h : H) : Nat → H
  | 0 => h
  | i + 1 => if (h.sl 1 i).frame = h.frames then (h.popTo i).setSl 1 i { h.sl 1 i with ob := 0 } else h.popTo i
def H.popF (h : H) : H := { h.popped with frames := h.frames - 1 }
def H.pop (h : H) (x : Int) : (Int × Why) × H :=
  if h.frames = 1 then ((0, ⟨9, 0⟩), h) else
  if (h.perhaps x).2.reason ≠ 0 then ((0, (h.perhaps x).2), h) else
  if (h.perhaps x).1 ≠ 0 ∧ h.popped.free 1 < 0 then ((0, ⟨7, 0⟩), h) else
  if (h.perhaps x).1 = 0 then ((0, fine), h.popF) else
  (((h.popF.take 1 (h.perhaps x).1).1, fine), (h.popF.take 1 (h.perhaps x).1).2)

theorem popTo_same (h : H) (i : Nat) : (h.popTo i).l = h.l ∧ (h.popTo i).room = h.room ∧ (h.popTo i).frames = h.frames ∧ (h.popTo i).classes = h.classes ∧ (h.popTo i).ended = h.ended ∧ (∀ k, k ≠ 1 → (h.popTo i).t k = h.t k) ∧ ((h.popTo i).t 1).length = (h.t 1).length := by
  induction i with
  | zero => exact ⟨rfl, rfl, rfl, rfl, rfl, fun _ _ => rfl, rfl⟩
  | succ i ih =>
    unfold H.popTo
    split
    · obtain ⟨a1, a2, a3, a4, a5, a6, a7⟩ := ih
      refine ⟨a1, a2, a3, a4, a5, fun k hk => ?_, ?_⟩
      · show (if k = 1 then _ else (h.popTo i).t k) = _
        rw [if_neg hk]; exact a6 k hk
      · show (if 1 = 1 then ((h.popTo i).t 1).set i _ else (h.popTo i).t 1).length = _
        rw [if_pos rfl, List.length_set]; exact a7
    · exact ih
theorem popTo_at (h : H) (i : Nat) (hi : i ≤ (h.t 1).length) (q : Nat) : ((h.popTo i).t 1).getD q sl0 = if q < i then popSl h.frames (h.sl 1 q) else h.sl 1 q := by
  induction i with
  | zero => rfl
  | succ i ih =>
    have ih := ih (by omega)
    unfold H.popTo
    split
    · rename_i e
      show (if 1 = 1 then ((h.popTo i).t 1).set i _ else (h.popTo i).t 1).getD q sl0 = _
      rw [if_pos rfl, getD_set _ _ _ _ _ (by rw [(popTo_same h i).2.2.2.2.2.2]; omega)]
      by_cases e2 : q = i
      · subst e2
        rw [if_pos rfl, if_pos (by omega)]
        unfold popSl; rw [if_pos e]
      · rw [if_neg e2, ih]
        by_cases e3 : q < i
        · rw [if_pos e3, if_pos (by omega)]
        · rw [if_neg e3, if_neg (by omega)]
    · rename_i e
      rw [ih]
      by_cases e2 : q = i
      · subst e2
        rw [if_neg (by omega), if_pos (by omega)]
        unfold popSl; rw [if_neg e]
      · by_cases e3 : q < i
        · rw [if_pos e3, if_pos (by omega)]
        · rw [if_neg e3, if_neg (by omega)]
theorem popTo_all (h : H) : h.popTo (h.t 1).length = h.popped := by
  obtain ⟨a1, a2, a3, a4, a5, a6, a7⟩ := popTo_same h (h.t 1).length
  have ht : (h.popTo (h.t 1).length).t = h.popped.t := by
    funext k
    by_cases e : k = 1
    · subst e
      show _ = if 1 = 1 then (h.t 1).map (popSl h.frames) else h.t 1
      rw [if_pos rfl]
      apply List.ext_getElem?
      intro q
      rcases Nat.lt_or_ge q (h.t 1).length with hq | hq
      · have h1 := popTo_at h (h.t 1).length (Nat.le_refl _) q
        rw [if_pos hq] at h1
        rw [List.getD_eq_getElem?_getD, List.getElem?_eq_getElem (by rw [a7]; exact hq)] at h1
        rw [List.getElem?_eq_getElem (by rw [a7]; exact hq), List.getElem?_map, List.getElem?_eq_getElem hq]
        simp only [Option.getD_some] at h1
        rw [h1]
        simp [H.sl, List.getD_eq_getElem?_getD, List.getElem?_eq_getElem hq]
      · rw [List.getElem?_eq_none (by rw [a7]; exact hq), List.getElem?_eq_none (by simpa using hq)]
    · rw [a6 k e]
      show _ = if k = 1 then _ else h.t k
      rw [if_neg e]
  cases hh : h.popTo (h.t 1).length
  rw [hh] at a1 a2 a3 a4 a5 ht
  simp only at a1 a2 a3 a4 a5 ht
  subst a1 a2 a3 a4 a5 ht
  rfl

end Tm
end Go.Proofs.YtcnmfljpmpgnjaaGreatDoor

namespace Go.Proofs.YtcnmfljpmpgnjaaGreatDoor
namespace Tm

/-- The marks are one list. -/
theorem Marked.unique {h : H} {M M' : List Bool} (m : Marked h M) (m' : Marked h M') : M = M' := by
  refine List.ext_getElem (by rw [m.1, m'.1]) fun i h1 h2 => ?_
  have a := m.2 i h1
  have b := m'.2 i h2
  rw [List.getD_eq_getElem?_getD, List.getElem?_eq_getElem h1] at a
  rw [List.getD_eq_getElem?_getD, List.getElem?_eq_getElem h2] at b
  simp only [Option.getD_some] at a b
  have e : M[i] = true ↔ M'[i] = true := a.trans b.symm
  cases h3 : M[i] <;> cases h4 : M'[i] <;> simp_all

/-- Somebody marks all that is reached. -/
theorem marked_exists (h : H) : ∃ M, Marked h M := by
  classical
  refine ⟨(List.range (h.l.length + 1)).map fun n => decide (Reach h n), by simp, fun n hn => ?_⟩
  simp only [List.length_map, List.length_range] at hn
  rw [List.getD_eq_getElem?_getD, List.getElem?_map, List.getElem?_range hn]
  simp

end Tm
end Go.Proofs.YtcnmfljpmpgnjaaGreatDoor

namespace Go.Proofs.YtcnmfljpmpgnjaaGreatDoor
namespace Tm

/-- A class that may be. -/
def goodClass (c : List Int) : Bool := decide (c.length ≤ 8) && c.all fun x => inR x 1 2
/-- A configuration that may be. -/
def right (r l g k : Int) (cl : List (List Int)) : Bool :=
  inR r 1 200 && (inR l 1 16 && (inR g 1 16 && (inR k 1 16 && (inR (cl.length : Int) 1 8 && cl.all goodClass))))

def slots0 (n : Int) : List Sl := List.replicate n.toNat sl0
/-- A new heap. -/
def newH (r l g k : Int) (cl : List (List Int)) : H :=
  { room := r, l := [], t := fun i => if i = 1 then slots0 l else if i = 2 then slots0 g else if i = 3 then slots0 k else [], frames := 1, ended := [], classes := cl }

theorem all_drop {α : Type} (l : List α) (d : α) (f : α → Bool) (j : Nat) (h : j < l.length) : (l.drop j).all f = (f (l.getD j d) && (l.drop (j + 1)).all f) := by
  rw [List.drop_eq_getElem_cons h, List.all_cons, List.getD_eq_getElem?_getD, List.getElem?_eq_getElem h]; rfl

end Tm
end Go.Proofs.YtcnmfljpmpgnjaaGreatDoor
