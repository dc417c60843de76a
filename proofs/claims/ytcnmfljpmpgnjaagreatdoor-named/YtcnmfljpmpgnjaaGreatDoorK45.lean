import Derived.Test.YtcnmfljpmpgnjaaGreatDoorK44
import Derived.Deep.Slices
import Derived.Deep.Matrix
import Derived.SizedLaws
import Derived.OpenShut
namespace Go.Proofs.YtcnmfljpmpgnjaaGreatDoor
open Go.RowKit
open Tm (H Ob Sl Why)

theorem ClsF.up {w : World} {B B' b o : Nat} {rp : Nat → Option Addr} {rc : Nat → Nat} {cl : List (List Int)} (h : ClsF w B b o rp rc cl) (hB : B ≤ B') : ClsF w B' b o rp rc cl :=
  ⟨fun h0 => Nat.lt_of_lt_of_le (h.lt h0) hB, h.row, h.nil, h.len, fun i hi h0 => by
    obtain ⟨b', o', q1, q2, q3⟩ := h.ints i hi h0
    exact ⟨b', o', q1, by omega, q3⟩⟩

theorem CfgAt.below {w w' : World} {B B' : Nat} {cp : Option Addr} {cn : Nat} (h : CfgAt w B cp cn) (hb : Below B w w') (hB : B ≤ B') : CfgAt w' B' cp cn := by
  rcases h with h | ⟨b, o, rp, rc, cl, ad, h1, had, h2, h3, h4⟩
  · exact Or.inl h
  · exact Or.inr ⟨b, o, rp, rc, cl, ad, h1, had, h2, (h3.below hb).up hB, h4⟩

/-- Own's classes. -/
theorem CfgAt.own {w w1 : World} (h : OwnAt w w1 w.heap.size) : CfgAt w1 w1.heap.size (some ⟨w.heap.size + 1 + 1, 0, none⟩) 1 := by
  have hz := h.size
  refine Or.inr ⟨w.heap.size + 1 + 1, 0, fun _ => some ⟨w.heap.size + 1, 0, none⟩, fun _ => 2, [[1, 2]], _, rfl, fun _ => rfl, rfl, ⟨fun _ => by omega, fun i hi => ?_, fun i hi hn => by simp at hn, fun i hi => ?_, fun i hi _ => ?_⟩, by simp⟩
  · obtain rfl : i = 0 := by simp at hi; exact hi
    exact h.row
  · obtain rfl : i = 0 := by simp at hi; exact hi
    simp
  · obtain rfl : i = 0 := by simp at hi; exact hi
    refine ⟨_, _, rfl, by omega, fun j hj => ?_⟩
    have hj2 : j < 2 := by simpa using hj
    have : j = 0 ∨ j = 1 := by omega
    rcases this with rfl | rfl
    · exact h.one
    · exact h.two

def In64 (x : Int) : Prop := -9223372036854775808 ≤ x ∧ x ≤ 9223372036854775807

/-- A step of a script, in memory. -/
def OpOK (C : Option Addr → Nat → Prop) (cells : List Value) (i : Nat) : Prop :=
  ∃ kd xA xB xD xE c0 c1 c2 c3 cp cn cc, IsOp cells i kd xA xB xD xE c0 c1 c2 c3 cp cn cc ∧ In64 xA ∧ In64 xB ∧ In64 xD ∧ In64 xE ∧ C cp cn

theorem OpOK.of {C : Option Addr → Nat → Prop} {i : Nat} {cells : List Value} {kd xA xB xD xE c0 c1 c2 c3 : Int} {cp : Option Addr} {cn cc : Nat} (h : OpOK C cells i) (o : IsOp cells i kd xA xB xD xE c0 c1 c2 c3 cp cn cc) :
    (∀ x, x = xA ∨ x = xB ∨ x = xD ∨ x = xE → -9223372036854775808 ≤ x ∧ x ≤ 9223372036854775807) ∧ C cp cn := by
  obtain ⟨kd', xA', xB', xD', xE', c0', c1', c2', c3', cp', cn', cc', o', r1, r2, r3, r4, hc⟩ := h
  obtain ⟨a0, a1, a2, a3, a4, a5, a6, a7, a8, a9⟩ := o
  obtain ⟨b0, b1, b2, b3, b4, b5, b6, b7, b8, b9⟩ := o'
  rw [a1] at b1; rw [a2] at b2; rw [a3] at b3; rw [a4] at b4; rw [a9] at b9
  injection b1 with b1; injection b1 with _ b1
  injection b2 with b2; injection b2 with _ b2
  injection b3 with b3; injection b3 with _ b3
  injection b4 with b4; injection b4 with _ b4
  injection b9 with b9; injection b9 with b9 b10 b11
  subst b1 b2 b3 b4 b9 b10
  refine ⟨fun x hx => ?_, hc⟩
  rcases hx with rfl | rfl | rfl | rfl
  · exact r1
  · exact r2
  · exact r3
  · exact r4

theorem IsOp.left {s t : List Value} {i : Nat} {kd xA xB xD xE c0 c1 c2 c3 : Int} {cp : Option Addr} {cn cc : Nat} (hi : i * 10 + 10 ≤ s.length) (h : IsOp s i kd xA xB xD xE c0 c1 c2 c3 cp cn cc) : IsOp (s ++ t) i kd xA xB xD xE c0 c1 c2 c3 cp cn cc := by
  unfold IsOp at *
  rw [List.getElem?_append_left (by omega), List.getElem?_append_left (by omega), List.getElem?_append_left (by omega), List.getElem?_append_left (by omega), List.getElem?_append_left (by omega), List.getElem?_append_left (by omega), List.getElem?_append_left (by omega), List.getElem?_append_left (by omega), List.getElem?_append_left (by omega), List.getElem?_append_left (by omega)]
  exact h

theorem IsOp.right {s t : List Value} {i k : Nat} {kd xA xB xD xE c0 c1 c2 c3 : Int} {cp : Option Addr} {cn cc : Nat} (hs : s.length = k * 10) (h : IsOp t i kd xA xB xD xE c0 c1 c2 c3 cp cn cc) : IsOp (s ++ t) (k + i) kd xA xB xD xE c0 c1 c2 c3 cp cn cc := by
  have e : ∀ j, (s ++ t)[(k + i) * 10 + j]? = t[i * 10 + j]? := fun j => by
    rw [List.getElem?_append_right (by omega)]
    congr 1; omega
  unfold IsOp at *
  rw [e, e, e, e, e, e, e, e, e]
  have e0 := e 0
  rw [Nat.add_zero, Nat.add_zero] at e0
  rw [e0]
  exact h

theorem in64_lit {x : Int} (h : decide (-9223372036854775808 ≤ x ∧ x ≤ 9223372036854775807) = true) : In64 x := by
  unfold In64; exact of_decide_eq_true h

theorem opOK_cons {C : Option Addr → Nat → Prop} {s t : List Value} {n : Nat} (hs : s.length = 10) (h0 : OpOK C s 0) (ht : ∀ i, i < n → OpOK C t i) (i : Nat) (hi : i < n + 1) : OpOK C (s ++ t) i := by
  cases i with
  | zero =>
    obtain ⟨kd, xA, xB, xD, xE, c0, c1, c2, c3, cp, cn, cc, o, r⟩ := h0
    exact ⟨kd, xA, xB, xD, xE, c0, c1, c2, c3, cp, cn, cc, o.left (by omega), r⟩
  | succ i =>
    obtain ⟨kd, xA, xB, xD, xE, c0, c1, c2, c3, cp, cn, cc, o, r⟩ := ht i (by omega)
    have := o.right (s := s) (k := 1) (by omega)
    rw [Nat.add_comm] at this
    exact ⟨kd, xA, xB, xD, xE, c0, c1, c2, c3, cp, cn, cc, this, r⟩

theorem firstOp_ok {C : Option Addr → Nat → Prop} (hn : C none 0) (k xB xD xE : Int) (h1 : decide (-9223372036854775808 ≤ xB ∧ xB ≤ 9223372036854775807) = true) (h2 : decide (-9223372036854775808 ≤ xD ∧ xD ≤ 9223372036854775807) = true) (h3 : decide (-9223372036854775808 ≤ xE ∧ xE ≤ 9223372036854775807) = true) : OpOK C (firstOp k xB xD xE) 0 :=
  ⟨k, 0, xB, xD, xE, 0, 0, 0, 0, none, 0, 0, ⟨rfl, rfl, rfl, rfl, rfl, rfl, rfl, rfl, rfl, rfl⟩, in64_lit rfl, in64_lit h1, in64_lit h2, in64_lit h3, hn⟩

theorem first_ok {C : Option Addr → Nat → Prop} (b : Nat) (hn : C none 0) (hc : C (some ⟨b, 0, none⟩) 1) : ∀ i, i < 22 → OpOK C (firstV b) i := by
  unfold firstV
  simp only [List.append_assoc]
  refine opOK_cons (by simp) ⟨1, 0, 0, 0, 0, 10, 3, 2, 2, some ⟨b, 0, none⟩, 1, 1, ⟨rfl, rfl, rfl, rfl, rfl, rfl, rfl, rfl, rfl, rfl⟩, in64_lit rfl, in64_lit rfl, in64_lit rfl, in64_lit rfl, hc⟩ ?_
  refine opOK_cons rfl (firstOp_ok hn _ _ _ _ rfl rfl rfl) ?_
  refine opOK_cons rfl (firstOp_ok hn _ _ _ _ rfl rfl rfl) ?_
  refine opOK_cons rfl (firstOp_ok hn _ _ _ _ rfl rfl rfl) ?_
  refine opOK_cons rfl (firstOp_ok hn _ _ _ _ rfl rfl rfl) ?_
  refine opOK_cons rfl (firstOp_ok hn _ _ _ _ rfl rfl rfl) ?_
  refine opOK_cons rfl (firstOp_ok hn _ _ _ _ rfl rfl rfl) ?_
  refine opOK_cons rfl (firstOp_ok hn _ _ _ _ rfl rfl rfl) ?_
  refine opOK_cons rfl (firstOp_ok hn _ _ _ _ rfl rfl rfl) ?_
  refine opOK_cons rfl (firstOp_ok hn _ _ _ _ rfl rfl rfl) ?_
  refine opOK_cons rfl (firstOp_ok hn _ _ _ _ rfl rfl rfl) ?_
  refine opOK_cons rfl (firstOp_ok hn _ _ _ _ rfl rfl rfl) ?_
  refine opOK_cons rfl (firstOp_ok hn _ _ _ _ rfl rfl rfl) ?_
  refine opOK_cons rfl (firstOp_ok hn _ _ _ _ rfl rfl rfl) ?_
  refine opOK_cons rfl (firstOp_ok hn _ _ _ _ rfl rfl rfl) ?_
  refine opOK_cons rfl (firstOp_ok hn _ _ _ _ rfl rfl rfl) ?_
  refine opOK_cons rfl (firstOp_ok hn _ _ _ _ rfl rfl rfl) ?_
  refine opOK_cons rfl (firstOp_ok hn _ _ _ _ rfl rfl rfl) ?_
  refine opOK_cons rfl (firstOp_ok hn _ _ _ _ rfl rfl rfl) ?_
  refine opOK_cons rfl (firstOp_ok hn _ _ _ _ rfl rfl rfl) ?_
  refine opOK_cons rfl (firstOp_ok hn _ _ _ _ rfl rfl rfl) ?_
  intro i hi
  obtain rfl : i = 0 := by omega
  exact firstOp_ok hn _ _ _ _ rfl rfl rfl

/-- A script, in memory. -/
structure Script (w : World) (m : Nat) (sv : List Value) : Prop where
  len : sv.length = m * 10
  one : ∀ u ∈ sv, u.oneCell' = true
  op : ∀ i, i < m → OpOK (CfgAt w w.heap.size) sv i

theorem Script.allC {w : World} {m : Nat} {sv : List Value} (s : Script w m sv) {C : Option Addr → Nat → Prop} (hn : C none 0) (h1 : C (some ⟨w.heap.size + 1 + 1, 0, none⟩) 1) (hC : ∀ cp cn, CfgAt w w.heap.size cp cn → C cp cn) (i : Nat) (hi : i < 22 + m) : OpOK C (allV (w.heap.size + 1 + 1) sv) i := by
  by_cases h22 : i < 22
  · obtain ⟨kd, xA, xB, xD, xE, c0, c1, c2, c3, cp, cn, cc, o, r⟩ := first_ok _ hn h1 i h22
    exact ⟨kd, xA, xB, xD, xE, c0, c1, c2, c3, cp, cn, cc, o.left (by rw [firstV_len]; omega), r⟩
  · obtain ⟨j, rfl⟩ : ∃ j, i = 22 + j := ⟨i - 22, by omega⟩
    obtain ⟨kd, xA, xB, xD, xE, c0, c1, c2, c3, cp, cn, cc, o, r1, r2, r3, r4, r⟩ := s.op j (by omega)
    exact ⟨kd, xA, xB, xD, xE, c0, c1, c2, c3, cp, cn, cc, o.right (by rw [firstV_len]), r1, r2, r3, r4, hC _ _ r⟩

theorem Script.all {w w1 : World} {m : Nat} {sv : List Value} (s : Script w m sv) (h : OwnAt w w1 w.heap.size) (i : Nat) (hi : i < 22 + m) : OpOK (CfgAt w1 w1.heap.size) (allV (w.heap.size + 1 + 1) sv) i :=
  s.allC (Or.inl ⟨rfl, rfl⟩) (CfgAt.own h) (fun _ _ r => r.below h.below (by have := h.size; omega)) i hi

section
variable {R : (Nat → Prop) → World → Nat → H → Prop} {N : Nat} {A : Nat → Addr}

/-- What is asked of the steps of the kinds that are played. -/
def StepsOK (R : (Nat → Prop) → World → Nat → H → Prop) (N : Nat) (A : Nat → Addr) (L : List Int) : Prop :=
  ∀ (w0 : World) (bl : Nat) (cells : List Value) (g wb i : Nat) (w : World) (kd xA xB xD xE c0 c1 c2 c3 : Int) (cp : Option Addr) (cn cc : Nat), Inv R N A w0 bl cells L g wb i w → i + 1 ≤ 1466015503701 → kd ∈ L → (∀ x, x = xA ∨ x = xB ∨ x = xD ∨ x = xE → -9223372036854775808 ≤ x ∧ x ≤ 9223372036854775807) → CfgAt w0 w0.heap.size cp cn →
    Calls Tryz.prog 47 #[.pointer (some ⟨wb, 0, none⟩), .agg #[.int .i64 kd, .int .i64 xA, .int .i64 xB, .int .i64 xD, .int .i64 xE, .int .i64 c0, .int .i64 c1, .int .i64 c2, .int .i64 c3, .slice cp cn cc]] w fun e w' => e = .returned (.bool true) ∧ Inv R N A w0 bl cells L g wb (i + 1) w'

theorem StepsOK.ends (K : ProgOK R N A) (KN : NewOK R N A) (L : List Int) (hL : ∀ x ∈ L, 1 ≤ x ∧ x ≤ 14) : StepsOK R N A L := fun _ _ _ _ _ _ _ _ _ _ _ _ _ _ _ _ _ _ _ v hi hk hx hc => Inv.step K KN v hi _ _ _ _ _ _ _ _ _ _ _ _ (hL _ hk).1 (hL _ hk).2 hx hc
theorem StepsOK.all (K : ProgAll R N A) (KN : NewOK R N A) (L : List Int) (hL : ∀ x ∈ L, 1 ≤ x ∧ x ≤ 18) : StepsOK R N A L := fun _ _ _ _ _ _ _ _ _ _ _ _ _ _ _ _ _ _ _ v hi hk hx hc => Inv.stepAll K KN v hi _ _ _ _ _ _ _ _ _ _ _ _ (hL _ hk).1 (hL _ hk).2 hx hc

/-- 'plays': the program answers as the document. -/
theorem plays_ok (ok : ROK R) (w : World) (hE : Errs N A w) (sp : Option Addr) (m c bl cL : Nat) (L : List Int) (hL : L.length ≤ 64) (hLk : StepsOK R N A L) (sv : List Value) (s : Script w m sv)
    (hsp : sp = none → m = 0) (hc : ∀ ad, sp = some ad → ∀ j u, sv[j]? = some u → ad.block < w.heap.size ∧ w.cell? (ad.add j) = some u) (hm : m ≤ 1466015503679)
    (hbl : bl < w.heap.size) (hpl : ∀ k, k < L.length → w.cell? ⟨bl, k, none⟩ = some (.int .i64 (L.getD k 0))) :
    Calls Tryz.prog 14 #[.slice sp m c, .slice (some ⟨bl, 0, none⟩) L.length cL] w fun e w' => e = .returned (.bool true) ∧ Below w.heap.size w w' := by
  refine (plays_any w sp m c bl cL L hL sv s.len s.one hsp hc hm (fun g wb i w' => ∃ w1, OwnAt w w1 w.heap.size ∧ Inv R N A w1 bl (allV (w.heap.size + 1 + 1) sv) L g wb i w') ?_ ?_ ?_ ?_ ?_).mono ?_
  · intro w4 g wb st
    obtain ⟨w1, ho, hb, hg, hwb⟩ := st.own
    have hz := ho.size
    refine ⟨w1, ho, hE.below st.below hE.le, ⟨st.row, st.glt, fun k hk => ?_, ?_⟩, hb, ?_, ?_⟩
    · rw [st.below.cell hbl]; exact hpl k hk
    · have := st.below.size; omega
    · have := hE.le; omega
    · refine ⟨0, 0, 0, none, fun _ => 0, fun _ => 0, fun _ => Tm.newH 0 0 0 0 [], fun _ _ => False, fun _ _ => False, fun _ => False, ?_, ?_, ?_, ?_, ?_, ?_, ?_, ?_, ?_, ⟨0, 0, 0, none, ⟨st.b1, st.soft 1, Nat.le_refl _, Nat.zero_le _, fun h => absurd h (Nat.lt_irrefl _), fun _ h => h.elim, id, fun i hi => absurd hi (Nat.not_lt_zero _)⟩, rfl, Nat.zero_le _⟩, fun _ h => h.elim⟩
      · exact ⟨st.b0, st.soft 0, st.blt, fun h => absurd h (Nat.lt_irrefl _), fun h => absurd h (Nat.lt_irrefl _), fun _ => rfl, Nat.le_refl _, Nat.zero_le _⟩
      · exact Nat.le_refl _
      · intro j hj; exact absurd hj (Nat.not_lt_zero _)
      · intro j hj; exact absurd hj (Nat.not_lt_zero _)
      · intro j hj; exact absurd hj (Nat.not_lt_zero _)
      · intro j k b hj; exact absurd hj (Nat.not_lt_zero _)
      · intro j b hj; exact absurd hj (Nat.not_lt_zero _)
      · intro h; exact absurd h (Nat.lt_irrefl _)
      · exact ⟨hg, hwb, st.ne, by omega⟩
  · rintro g wb i w' ⟨w1, ho, v⟩ hi
    obtain ⟨n, cL, bL, pL, pa, ra, hs, SP, SR, KB, q⟩ := v.heaps
    obtain ⟨nK, cK, bK, pK, bk, _, hnK⟩ := q.book
    exact ⟨v.looked, KB, nK, cK, bK, pK, bk, by omega⟩
  · rintro g wb i w' o ⟨w1, ho, v⟩
    exact ⟨w1, ho, v.grow ok (Below.alloc0 w' o) (i + 1) (by omega)⟩
  · intro i hi
    obtain ⟨kd, xA, xB, xD, xE, c0, c1, c2, c3, cp, cn, cc, o, _⟩ := s.allC (C := fun _ _ => True) trivial trivial (fun _ _ _ => trivial) i hi
    exact ⟨kd, xA, xB, xD, xE, c0, c1, c2, c3, cp, cn, cc, o⟩
  · rintro g wb i w' o kd xA xB xD xE c0 c1 c2 c3 cp cn cc ⟨w1, ho, v⟩ hi hop hin
    obtain ⟨x, hx, hxk⟩ := List.any_eq_true.1 hin
    obtain rfl : x = kd := by simpa using hxk
    obtain ⟨hr, hcf⟩ := (s.all ho i hi).of hop
    refine (hLk w1 bl _ g wb i _ x xA xB xD xE c0 c1 c2 c3 cp cn cc (v.grow ok (Below.alloc0 w' o) i (Nat.le_refl _)) (by omega) hx hr hcf).mono ?_
    rintro e w'' ⟨rfl, v'⟩
    exact ⟨rfl, w1, ho, v'⟩
  · rintro e w' ⟨rfl, g, wb, w1, ho, v⟩
    have hz := ho.size
    exact ⟨rfl, ho.below.trans (v.below.mono (by omega))⟩
end
end Go.Proofs.YtcnmfljpmpgnjaaGreatDoor

namespace Go.Proofs.YtcnmfljpmpgnjaaGreatDoor
open Go.RowKit
open Tm (H Ob Sl Why)

def intsV (L : List Int) : List Value := L.map (.int .i64 ·)

section
variable {R : (Nat → Prop) → World → Nat → H → Prop} {N : Nat} {A : Nat → Addr}

theorem Script.below {w w' : World} {m : Nat} {sv : List Value} (s : Script w m sv) (hb : Below w.heap.size w w') : Script w' m sv :=
  ⟨s.len, s.one, fun i hi => by
    obtain ⟨kd, xA, xB, xD, xE, c0, c1, c2, c3, cp, cn, cc, o, r1, r2, r3, r4, r⟩ := s.op i hi
    exact ⟨kd, xA, xB, xD, xE, c0, c1, c2, c3, cp, cn, cc, o, r1, r2, r3, r4, r.below hb hb.size⟩⟩

/-- 'plays', behind the list of kinds. -/
theorem plays_kinds (ok : ROK R) (w : World) (hE : Errs N A w) (sp : Option Addr) (m c cL : Nat) (L : List Int) (hL : L.length ≤ 64) (hLk : StepsOK R N A L) (sv : List Value) (s : Script w m sv)
    (hsp : sp = none → m = 0) (hc : ∀ ad, sp = some ad → ∀ j u, sv[j]? = some u → ad.block < w.heap.size ∧ w.cell? (ad.add j) = some u) (hm : m ≤ 1466015503679) (n : Nat) (hn : n = L.length) (arr : Array Value) (ha : arr = (intsV L).toArray) :
    Calls Tryz.prog 14 #[.slice sp m c, .slice (some ⟨w.heap.size, 0, none⟩) n cL] (w.alloc (.cells arr 3)) fun e w' => e = .returned (.bool true) ∧ Below w.heap.size w w' := by
  subst hn ha
  have hb := Below.alloc0 w (.cells (intsV L).toArray 3)
  refine (plays_ok ok _ (hE.below hb hE.le) sp m c w.heap.size cL L hL hLk sv (s.below hb) hsp (fun ad ha j u hj => ⟨?_, ?_⟩) hm (by simp) (fun k hk => ?_)).mono ?_
  · have := (hc ad ha j u hj).1; simp; omega
  · have h1 := (hc ad ha j u hj).1
    have h2 := (hc ad ha j u hj).2
    have e : (ad.add j).block = ad.block := by unfold Addr.add; split <;> rfl
    rw [hb.cell (by rw [e]; exact h1)]; exact h2
  · rw [World.cell?_alloc_new]
    simp [intsV, List.getD, List.getElem?_eq_getElem hk]
  · rintro e w' ⟨rfl, q⟩
    exact ⟨rfl, hb.trans (q.mono (by simp))⟩

set_option maxRecDepth 100000 in
set_option maxHeartbeats 4000000 in
theorem Handles_ok (K : ProgOK R N A) (KN : NewOK R N A) (w : World) (hE : Errs N A w) (sp : Option Addr) (m c : Nat) (sv : List Value) (s : Script w m sv)
    (hsp : sp = none → m = 0) (hc : ∀ ad, sp = some ad → ∀ j u, sv[j]? = some u → ad.block < w.heap.size ∧ w.cell? (ad.add j) = some u) (hm : m ≤ 1466015503679) :
    Calls Tryz.prog 4 #[.slice sp m c] w fun e w' => e = .returned (.bool true) ∧ Below w.heap.size w w' := by
  have HP := hide (plays_kinds K.ok w hE sp m c 12 [1, 2, 3, 4, 5, 6, 7, 8, 9, 10, 11, 12] (by decide) (StepsOK.ends K KN _ (by decide)) sv s hsp hc hm 12 rfl #[.int .i64 1, .int .i64 2, .int .i64 3, .int .i64 4, .int .i64 5, .int .i64 6, .int .i64 7, .int .i64 8, .int .i64 9, .int .i64 10, .int .i64 11, .int .i64 12] rfl)
  clear s hsp hc hm
  go_enter Tryz.func4, Tryz.ntmps4
  go_wp2_with fail
  refine HP.out.mono ?_
  rintro e w' ⟨rfl, hb⟩
  go_wp2_with fail
  go_ret
  exact ⟨rfl, hb⟩

set_option maxRecDepth 100000 in
set_option maxHeartbeats 4000000 in
theorem Objects_ok (K : ProgOK R N A) (KN : NewOK R N A) (w : World) (hE : Errs N A w) (sp : Option Addr) (m c : Nat) (sv : List Value) (s : Script w m sv)
    (hsp : sp = none → m = 0) (hc : ∀ ad, sp = some ad → ∀ j u, sv[j]? = some u → ad.block < w.heap.size ∧ w.cell? (ad.add j) = some u) (hm : m ≤ 1466015503679) :
    Calls Tryz.prog 3 #[.slice sp m c] w fun e w' => e = .returned (.bool true) ∧ Below w.heap.size w w' := by
  have HP := hide (plays_kinds K.ok w hE sp m c 6 [1, 2, 3, 4, 5, 11] (by decide) (StepsOK.ends K KN _ (by decide)) sv s hsp hc hm 6 rfl #[.int .i64 1, .int .i64 2, .int .i64 3, .int .i64 4, .int .i64 5, .int .i64 11] rfl)
  clear s hsp hc hm
  go_enter Tryz.func3, Tryz.ntmps3
  go_wp2_with fail
  refine HP.out.mono ?_
  rintro e w' ⟨rfl, hb⟩
  go_wp2_with fail
  go_ret
  exact ⟨rfl, hb⟩
set_option maxRecDepth 100000 in
set_option maxHeartbeats 4000000 in
theorem Ends_ok (K : ProgOK R N A) (KN : NewOK R N A) (w : World) (hE : Errs N A w) (sp : Option Addr) (m c : Nat) (sv : List Value) (s : Script w m sv)
    (hsp : sp = none → m = 0) (hc : ∀ ad, sp = some ad → ∀ j u, sv[j]? = some u → ad.block < w.heap.size ∧ w.cell? (ad.add j) = some u) (hm : m ≤ 1466015503679) :
    Calls Tryz.prog 8 #[.slice sp m c] w fun e w' => e = .returned (.bool true) ∧ Below w.heap.size w w' := by
  have HP := hide (plays_kinds K.ok w hE sp m c 14 [1, 2, 3, 4, 5, 6, 7, 8, 9, 10, 11, 12, 13, 14] (by decide) (StepsOK.ends K KN _ (by decide)) sv s hsp hc hm 14 rfl #[.int .i64 1, .int .i64 2, .int .i64 3, .int .i64 4, .int .i64 5, .int .i64 6, .int .i64 7, .int .i64 8, .int .i64 9, .int .i64 10, .int .i64 11, .int .i64 12, .int .i64 13, .int .i64 14] rfl)
  clear s hsp hc hm
  go_enter Tryz.func8, Tryz.ntmps8
  go_wp2_with fail
  refine HP.out.mono ?_
  rintro e w' ⟨rfl, hb⟩
  go_wp2_with fail
  go_ret
  exact ⟨rfl, hb⟩

end
end Go.Proofs.YtcnmfljpmpgnjaaGreatDoor

namespace Go.Proofs.YtcnmfljpmpgnjaaGreatDoor
open Go.RowKit Go.ChangeShapes Go.Deep
open Tm (Ob Sl Why)

section
variable {H : Type} {enc : TypeId × Value → H} {w : World}

/-- All that is met in a datum is within the reach. -/
def Light (t : TypeId) (d : DataW H) : Prop := ∀ n ∈ d.weights Tryz.prog t, n ≤ reachBytes

theorem weights_all {e : TypeId} : ∀ {l : List (DataW H)} {d : DataW H}, d ∈ l → ∀ n ∈ d.weights Tryz.prog e, n ∈ DataW.weightsAll Tryz.prog e l
  | a :: l, d, hd, n, hn => by
    simp only [DataW.weightsAll, List.mem_append]
    rcases List.mem_cons.1 hd with rfl | h
    · exact Or.inl hn
    · exact Or.inr (weights_all h n hn)

theorem Light.slice {t e : TypeId} {el sp : List (DataW H)} (h : Light t (.slice el sp)) (ht : Tryz.prog.underlying t = some (.slice e)) : (el.length + sp.length) * Tryz.prog.bytesOf e ≤ reachBytes ∧ ∀ d ∈ el, Light e d := by
  unfold Light at h
  simp only [DataW.weights, ht] at h
  exact ⟨h _ (List.mem_cons_self ..), fun d hd n hn => h n (List.mem_cons_of_mem _ (List.mem_append_left _ (weights_all hd n hn)))⟩

theorem Light.field {t : TypeId} {fs : Array Field} {parts : List (DataW H)} (h : Light t (.agg parts)) (ht : Tryz.prog.underlying t = some (.struct fs)) (j : Nat) (f : Field) (d : DataW H) (hf : fs[j]? = some f) (hd : parts[j]? = some d) : Light f.type d := by
  unfold Light at h
  simp only [DataW.weights, ht] at h
  exact fun n hn => h n (DataW.weights_mem_each (j := j) (by rw [List.getElem?_map, Array.getElem?_toList, hf]; rfl) hd n hn)

theorem bytesRow : Tryz.prog.bytesOf 24 = 24 := by kernel_rfl
theorem bytesInt : Tryz.prog.bytesOf 3 = 8 := by kernel_rfl
theorem bytesOp : Tryz.prog.bytesOf 85 = 96 := by kernel_rfl
theorem cellsRow : Tryz.prog.cellsOf 24 = 1 := by kernel_rfl
theorem cellsRows : Tryz.prog.cellsOf 61 = 1 := by kernel_rfl
theorem cellsInt : Tryz.prog.cellsOf 3 = 1 := by kernel_rfl
theorem cellsOp : Tryz.prog.cellsOf 85 = 10 := by kernel_rfl
theorem cellsCfg : Tryz.prog.cellsOf 63 = 5 := by kernel_rfl

theorem cell_lt {ad : Addr} {v : Value} (h : w.cell? ad = some v) : ad.block < w.heap.size := by
  rcases Nat.lt_or_ge ad.block w.heap.size with h1 | h1
  · exact h1
  · exfalso
    unfold World.cell? at h
    simp [Array.getElem?_eq_none h1] at h

theorem plain {ad : Addr} (h : ad.spot = none) : ad = ⟨ad.block, ad.off, none⟩ := by
  obtain ⟨b, o, s⟩ := ad
  simp only at h
  rw [h]

theorem add_of {ad : Addr} (h : ad.spot = none) (j : Nat) : ad.add j = ⟨ad.block, ad.off + j, none⟩ := by
  obtain ⟨b, o, s⟩ := ad
  simp only at h
  subst h
  unfold Addr.add
  split
  · next e => subst e; rfl
  · rfl

theorem rows_of {fuel : Nat} {cs : List Value} {x : DataW H × List MemPlace} (h : DataW.trod enc Tryz.prog w 0 (fun _ => true) true fuel 61 cs = some x) (hL : Light 61 x.1) :
    ∃ cp cn cc, cs = [.slice cp cn cc] ∧ CfgAt w w.heap.size cp cn := by
  rcases open_int_rows Tryz.underlying61 Tryz.underlying24 Tryz.underlying3 cellsRow cellsInt h with ⟨rfl, _⟩ | ⟨a, len, cap, A, L, C, Z, rfl, _, hlc, hcm, rfl, hrow⟩
  · exact ⟨none, 0, 0, rfl, Or.inl ⟨rfl, rfl⟩⟩
  have hl := hL.slice Tryz.underlying61
  rw [bytesRow] at hl
  simp only [List.length_map, List.length_range] at hl
  obtain ⟨hl1, hl2⟩ := hl
  unfold reachBytes at hl1
  refine ⟨_, _, _, rfl, Or.inr ⟨a.block, a.off, A, C, (List.range len).map fun r => (Z r).take (L r), a, rfl, ?_, by simp, ?_, by simp; omega⟩⟩
  · intro h0
    simp at h0
    have := World.cell?_spot (hrow 0 (by omega)).1
    exact plain (by unfold Addr.add at this; simpa using this)
  · have hg : ∀ i, i < len → ((List.range len).map fun r => (Z r).take (L r)).getD i [] = (Z i).take (L i) := fun i hi => by simp [List.getD, hi]
    have hsp : 0 < len → a.spot = none := fun h0 => by
      have := World.cell?_spot (hrow 0 (by omega)).1
      unfold Addr.add at this; simpa using this
    have hle : ∀ i, i < len → ((Z i).take (L i)).length = L i := fun i hi => by
      obtain ⟨_, h1, _, h2, _⟩ := hrow i (by omega)
      simp; omega
    refine ⟨fun h0 => ?_, fun i hi => ?_, fun i hi hn => ?_, fun i hi => ?_, fun i hi h0 => ?_⟩
    · simp at h0
      have := cell_lt (hrow 0 (by omega)).1
      unfold Addr.add at this; simpa using this
    · simp at hi
      rw [hg i hi, hle i hi, ← add_of (hsp (by omega))]
      exact (hrow i (by omega)).1
    · simp at hi
      rw [hg i hi]
      obtain ⟨_, h1, _, h2, _, h3, _⟩ := hrow i (by omega)
      have := h3 hn
      exact List.length_eq_zero_iff.1 (by rw [hle i hi]; omega)
    · simp at hi
      rw [hg i hi, hle i hi]
      have := hl2 (intRow .i64 (A i) (L i) (Z i)) (List.mem_map.2 ⟨i, List.mem_range.2 hi, rfl⟩)
      obtain ⟨_, h1, _, h2, _, h3, _⟩ := hrow i (by omega)
      cases hA : A i with
      | none => have := h3 hA; omega
      | some a' =>
        rw [hA] at this
        have := (Light.slice (t := 24) (e := 3) this Tryz.underlying24).1
        rw [bytesInt] at this
        simp only [lits, List.length_map, List.length_take, List.length_drop] at this
        unfold reachBytes at this
        omega
    · simp at hi
      rw [hg i hi, hle i hi] at *
      obtain ⟨_, h1, _, h2, _, h3, h4⟩ := hrow i (by omega)
      cases hA : A i with
      | none => have := h3 hA; omega
      | some a' =>
        obtain ⟨_, h5⟩ := h4 a' hA
        have s' : a'.spot = none := by
          have := World.cell?_spot (h5 0 (by omega))
          unfold Addr.add at this; simpa using this
        refine ⟨a'.block, a'.off, congrArg some (plain s'), ?_, fun j hj => ?_⟩
        · have := cell_lt (h5 0 (by omega))
          unfold Addr.add at this; simpa using this
        · rw [← add_of s', h5 j (by omega)]
          simp [List.getD, hj]
end
end Go.Proofs.YtcnmfljpmpgnjaaGreatDoor

namespace Go.Proofs.YtcnmfljpmpgnjaaGreatDoor
open Go.RowKit Go.ChangeShapes Go.Deep
open Tm (Ob Sl Why)

section
variable {H : Type} {enc : TypeId × Value → H} {w : World}

theorem len5 {α : Type} {l : List α} (h : l.length = 5) : ∃ a0 a1 a2 a3 a4, l = [a0, a1, a2, a3, a4] := by
  match l, h with
  | [a0, a1, a2, a3, a4], _ => exact ⟨a0, a1, a2, a3, a4, rfl⟩
theorem len6 {α : Type} {l : List α} (h : l.length = 6) : ∃ a0 a1 a2 a3 a4 a5, l = [a0, a1, a2, a3, a4, a5] := by
  match l, h with
  | [a0, a1, a2, a3, a4, a5], _ => exact ⟨a0, a1, a2, a3, a4, a5, rfl⟩
theorem len10 {α : Type} {l : List α} (h : l.length = 10) : ∃ a0 a1 a2 a3 a4 a5 a6 a7 a8 a9, l = [a0, a1, a2, a3, a4, a5, a6, a7, a8, a9] := by
  match l, h with
  | [a0, a1, a2, a3, a4, a5, a6, a7, a8, a9], _ => exact ⟨a0, a1, a2, a3, a4, a5, a6, a7, a8, a9, rfl⟩

theorem in64_wf {n : Int} (h : (Lit.int .i64 n).wf = true) : In64 n := by
  exact bounds_i64 h

theorem cfg_of {fuel : Nat} {cs : List Value} {x : DataW H × List MemPlace} (h : DataW.trod enc Tryz.prog w 0 (fun _ => true) true fuel 63 cs = some x) (hL : Light 63 x.1) :
    ∃ c0 c1 c2 c3 cp cn cc, cs = [.int .i64 c0, .int .i64 c1, .int .i64 c2, .int .i64 c3, .slice cp cn cc] ∧ CfgAt w w.heap.size cp cn := by
  obtain ⟨xs, n, _, rfl, hl, hlen, hf⟩ := DataW.trod_struct Tryz.underlying63 h
  rw [cellsCfg] at hl
  obtain ⟨a0, a1, a2, a3, a4, rfl⟩ := len5 hl
  obtain ⟨y0, y1, y2, y3, y4, rfl⟩ := len5 (hlen.trans rfl)
  have h0 : DataW.trod enc Tryz.prog w 0 (fun _ => true) true n 3 (([a0, a1, a2, a3, a4].drop 0).take (Tryz.prog.cellsOf 3)) = some y0 := hf 0 _ rfl
  have h1 : DataW.trod enc Tryz.prog w 0 (fun _ => true) true n 3 (([a0, a1, a2, a3, a4].drop 1).take (Tryz.prog.cellsOf 3)) = some y1 := hf 1 _ rfl
  have h2 : DataW.trod enc Tryz.prog w 0 (fun _ => true) true n 3 (([a0, a1, a2, a3, a4].drop 2).take (Tryz.prog.cellsOf 3)) = some y2 := hf 2 _ rfl
  have h3 : DataW.trod enc Tryz.prog w 0 (fun _ => true) true n 3 (([a0, a1, a2, a3, a4].drop 3).take (Tryz.prog.cellsOf 3)) = some y3 := hf 3 _ rfl
  have h4 : DataW.trod enc Tryz.prog w 0 (fun _ => true) true n 61 (([a0, a1, a2, a3, a4].drop 4).take (Tryz.prog.cellsOf 61)) = some y4 := hf 4 _ rfl
  simp only [cellsInt, cellsRows] at h0 h1 h2 h3 h4
  obtain ⟨c0, e0, _⟩ := DataW.trod_int Tryz.underlying3 h0
  obtain ⟨c1, e1, _⟩ := DataW.trod_int Tryz.underlying3 h1
  obtain ⟨c2, e2, _⟩ := DataW.trod_int Tryz.underlying3 h2
  obtain ⟨c3, e3, _⟩ := DataW.trod_int Tryz.underlying3 h3
  obtain ⟨cp, cn, cc, e4, hc⟩ := rows_of h4 (hL.field Tryz.underlying63 4 _ y4.1 rfl rfl)
  simp only [List.drop, List.take, List.cons.injEq, and_true] at e0 e1 e2 e3 e4
  subst e0 e1 e2 e3 e4
  exact ⟨c0, c1, c2, c3, cp, cn, cc, rfl, hc⟩

theorem op_of {fuel : Nat} {cs : List Value} {x : DataW H × List MemPlace} (h : DataW.trod enc Tryz.prog w 0 (fun _ => true) true fuel 85 cs = some x) (hL : Light 85 x.1) :
    ∃ kd xA xB xD xE c0 c1 c2 c3 cp cn cc, cs = [.int .i64 kd, .int .i64 xA, .int .i64 xB, .int .i64 xD, .int .i64 xE, .int .i64 c0, .int .i64 c1, .int .i64 c2, .int .i64 c3, .slice cp cn cc] ∧ In64 xA ∧ In64 xB ∧ In64 xD ∧ In64 xE ∧ CfgAt w w.heap.size cp cn := by
  obtain ⟨xs, n, _, rfl, hl, hlen, hf⟩ := DataW.trod_struct Tryz.underlying85 h
  rw [cellsOp] at hl
  obtain ⟨a0, a1, a2, a3, a4, a5, a6, a7, a8, a9, rfl⟩ := len10 hl
  obtain ⟨y0, y1, y2, y3, y4, y5, rfl⟩ := len6 (hlen.trans rfl)
  have h0 : DataW.trod enc Tryz.prog w 0 (fun _ => true) true n 3 (([a0, a1, a2, a3, a4, a5, a6, a7, a8, a9].drop 0).take (Tryz.prog.cellsOf 3)) = some y0 := hf 0 _ rfl
  have h1 : DataW.trod enc Tryz.prog w 0 (fun _ => true) true n 3 (([a0, a1, a2, a3, a4, a5, a6, a7, a8, a9].drop 1).take (Tryz.prog.cellsOf 3)) = some y1 := hf 1 _ rfl
  have h2 : DataW.trod enc Tryz.prog w 0 (fun _ => true) true n 3 (([a0, a1, a2, a3, a4, a5, a6, a7, a8, a9].drop 2).take (Tryz.prog.cellsOf 3)) = some y2 := hf 2 _ rfl
  have h3 : DataW.trod enc Tryz.prog w 0 (fun _ => true) true n 3 (([a0, a1, a2, a3, a4, a5, a6, a7, a8, a9].drop 3).take (Tryz.prog.cellsOf 3)) = some y3 := hf 3 _ rfl
  have h4 : DataW.trod enc Tryz.prog w 0 (fun _ => true) true n 3 (([a0, a1, a2, a3, a4, a5, a6, a7, a8, a9].drop 4).take (Tryz.prog.cellsOf 3)) = some y4 := hf 4 _ rfl
  have h5 : DataW.trod enc Tryz.prog w 0 (fun _ => true) true n 63 (([a0, a1, a2, a3, a4, a5, a6, a7, a8, a9].drop 5).take (Tryz.prog.cellsOf 63)) = some y5 := hf 5 _ rfl
  simp only [cellsInt, cellsCfg] at h0 h1 h2 h3 h4 h5
  obtain ⟨kd, e0, _, _⟩ := DataW.trod_int Tryz.underlying3 h0
  obtain ⟨xA, e1, _, q1⟩ := DataW.trod_int Tryz.underlying3 h1
  obtain ⟨xB, e2, _, q2⟩ := DataW.trod_int Tryz.underlying3 h2
  obtain ⟨xD, e3, _, q3⟩ := DataW.trod_int Tryz.underlying3 h3
  obtain ⟨xE, e4, _, q4⟩ := DataW.trod_int Tryz.underlying3 h4
  obtain ⟨c0, c1, c2, c3, cp, cn, cc, e5, hc⟩ := cfg_of h5 (hL.field Tryz.underlying85 5 _ y5.1 rfl rfl)
  simp only [List.drop, List.take, List.cons.injEq, and_true] at e0 e1 e2 e3 e4 e5
  obtain ⟨e5, e6, e7, e8, e9⟩ := e5
  subst e0 e1 e2 e3 e4 e5 e6 e7 e8 e9
  exact ⟨kd, xA, xB, xD, xE, c0, c1, c2, c3, cp, cn, cc, rfl, in64_wf q1, in64_wf q2, in64_wf q3, in64_wf q4, hc⟩

theorem add_add (a : Addr) (p q : Nat) : (a.add p).add q = a.add (p + q) := by
  by_cases hp : p = 0
  · subst hp; rw [Nat.zero_add]; rfl
  by_cases hq : q = 0
  · subst hq; rfl
  unfold Addr.add
  rw [if_neg hq, if_neg hp, if_neg (by omega)]
  simp [Nat.add_assoc]

/-- A script that comes in. -/
theorem script_of {fuel : Nat} {cs : List Value} {x : DataW H × List MemPlace} (h : DataW.trod enc Tryz.prog w 0 (fun _ => true) true fuel 22 cs = some x) (hL : Light 22 x.1) :
    ∃ sp m c sv, cs = [.slice sp m c] ∧ Script w m sv ∧ (sp = none → m = 0) ∧ (∀ ad, sp = some ad → ∀ j u, sv[j]? = some u → ad.block < w.heap.size ∧ w.cell? (ad.add j) = some u) ∧ m ≤ 1466015503679 := by
  rcases open_slice Tryz.underlying22 h with ⟨rfl, rfl⟩ | ⟨a, len, cap, m, n, D, Pl, rfl, _, hlc, hcm, hm, rfl, hrow⟩
  · exact ⟨none, 0, 0, [], rfl, ⟨rfl, fun u hu => by simp at hu, fun i hi => absurd hi (Nat.not_lt_zero _)⟩, fun _ => rfl, fun ad e => (by cases e), by omega⟩
  simp only [if_true] at hm
  obtain ⟨hl1, hl2⟩ := hL.slice Tryz.underlying22
  rw [bytesOp] at hl1
  simp only [List.length_map, List.length_range] at hl1
  unfold reachBytes at hl1
  have hR : ∀ i, i < len → ∃ kd xA xB xD xE c0 c1 c2 c3 cp cn cc, (∀ k, k < 10 → w.cell? (a.add (i * 10 + k)) = ([.int .i64 kd, .int .i64 xA, .int .i64 xB, .int .i64 xD, .int .i64 xE, .int .i64 c0, .int .i64 c1, .int .i64 c2, .int .i64 c3, .slice cp cn cc] : List Value)[k]?) ∧ In64 xA ∧ In64 xB ∧ In64 xD ∧ In64 xE ∧ CfgAt w w.heap.size cp cn := fun i hi => by
    obtain ⟨cs', h1, h2⟩ := hrow i (by omega)
    obtain ⟨kd, xA, xB, xD, xE, c0, c1, c2, c3, cp, cn, cc, rfl, q⟩ := op_of h2 (hl2 _ (List.mem_map.2 ⟨i, List.mem_range.2 hi, rfl⟩))
    rw [cellsOp] at h1
    obtain ⟨_, _, h3⟩ := World.cells?_some h1
    exact ⟨kd, xA, xB, xD, xE, c0, c1, c2, c3, cp, cn, cc, fun k hk => by rw [← add_add]; exact h3 k hk, q⟩
  refine ⟨some a, len, cap, (List.range (len * 10)).map fun j => (w.cell? (a.add j)).getD (.bool false), rfl, ⟨by simp, fun u hu => ?_, fun i hi => ?_⟩, fun e => (by cases e), fun ad e => ?_, by omega⟩
  · obtain ⟨j, hj, rfl⟩ := List.mem_map.1 hu
    have hj := List.mem_range.1 hj
    obtain ⟨kd, xA, xB, xD, xE, c0, c1, c2, c3, cp, cn, cc, hk, _⟩ := hR (j / 10) (by omega)
    have e := hk (j % 10) (by omega)
    rw [show j / 10 * 10 + j % 10 = j by omega] at e
    rw [e]
    have : j % 10 = 0 ∨ j % 10 = 1 ∨ j % 10 = 2 ∨ j % 10 = 3 ∨ j % 10 = 4 ∨ j % 10 = 5 ∨ j % 10 = 6 ∨ j % 10 = 7 ∨ j % 10 = 8 ∨ j % 10 = 9 := by omega
    rcases this with h | h | h | h | h | h | h | h | h | h <;> rw [h] <;> rfl
  · obtain ⟨kd, xA, xB, xD, xE, c0, c1, c2, c3, cp, cn, cc, hk, q⟩ := hR i hi
    refine ⟨kd, xA, xB, xD, xE, c0, c1, c2, c3, cp, cn, cc, ?_, q⟩
    have hg : ∀ k, k < 10 → ((List.range (len * 10)).map fun j => (w.cell? (a.add j)).getD (.bool false))[i * 10 + k]? = some (([.int .i64 kd, .int .i64 xA, .int .i64 xB, .int .i64 xD, .int .i64 xE, .int .i64 c0, .int .i64 c1, .int .i64 c2, .int .i64 c3, .slice cp cn cc] : List Value)[k]?.getD (.bool false)) := fun k hk' => by
      rw [List.getElem?_map, List.getElem?_range (by omega), Option.map_some, hk k hk']
    exact ⟨hg 0 (by omega), hg 1 (by omega), hg 2 (by omega), hg 3 (by omega), hg 4 (by omega), hg 5 (by omega), hg 6 (by omega), hg 7 (by omega), hg 8 (by omega), hg 9 (by omega)⟩
  · injection e with e
    subst e
    intro j u hj
    rw [List.getElem?_map] at hj
    have hjl : j < len * 10 := by
      rcases Nat.lt_or_ge j (len * 10) with h1 | h1
      · exact h1
      · rw [List.getElem?_eq_none (by simpa using h1)] at hj; cases hj
    rw [List.getElem?_range hjl, Option.map_some] at hj
    injection hj with hj
    obtain ⟨kd, xA, xB, xD, xE, c0, c1, c2, c3, cp, cn, cc, hk, _⟩ := hR (j / 10) (by omega)
    have e := hk (j % 10) (by omega)
    rw [show j / 10 * 10 + j % 10 = j by omega] at e
    have hs : ∃ v, w.cell? (a.add j) = some v := by
      rw [e]
      exact ⟨_, List.getElem?_eq_getElem (by simp; omega)⟩
    obtain ⟨v, hv⟩ := hs
    rw [hv] at hj
    refine ⟨?_, by rw [hv, ← hj]; rfl⟩
    have := cell_lt hv
    have eb : (a.add j).block = a.block := by unfold Addr.add; split <;> rfl
    rw [eb] at this; exact this
end
end Go.Proofs.YtcnmfljpmpgnjaaGreatDoor
