import Derived.Test.YtcnmfljpmpgnjaaGreatDoorJ01
import Derived.Maps.OwnSet
import Derived.Maps.RangeWalk
namespace Go.Proofs.YtcnmfljpmpgnjaaGreatDoor
open Go.RowKit Go.Maps
open Tm (H Ob Sl Why)

/-- How a pointer to an object reads: by its block. -/
def ptrElem : Value → Option (DataW Unit × List MemPlace)
  | .pointer (some ⟨b, 0, none⟩) => some (.lit (.int .i64 (b : Int)), [])
  | .pointer none => some (.nil, [])
  | _ => none
theorem ptrElem_mk (b : Nat) : ptrElem (.pointer (some ⟨b, 0, none⟩)) = some (.lit (.int .i64 (b : Int)), []) := rfl
theorem ptrElem_nil : ptrElem (.pointer none) = some (.nil, []) := rfl
def ptrV (c : Option Nat) : Value := .pointer (c.map fun b => ⟨b, 0, none⟩)
theorem ptrElem_inv {v : Value} {y : DataW Unit × List MemPlace} (h : ptrElem v = some y) : ∃ c, v = ptrV c := by
  unfold ptrElem at h
  split at h
  · exact ⟨some _, rfl⟩
  · exact ⟨none, rfl⟩
  · cases h
theorem ptrElem_at {v : Value} {b : Nat} {ps : List MemPlace} (h : ptrElem v = some (.lit (.int .i64 (b : Int)), ps)) : v = .pointer (some ⟨b, 0, none⟩) := by
  unfold ptrElem at h
  split at h
  · simp only [Option.some.injEq, Prod.mk.injEq, DataW.lit.injEq, Lit.int.injEq, true_and] at h
    obtain ⟨h1, _⟩ := h
    have : ∀ x y : Nat, (x : Int) = (y : Int) → x = y := fun x y h => by omega
    rw [this _ _ h1]
  · cases h
  · cases h

def key (j : Nat) : Lit := .int .i64 ((j : Int) + 1)
theorem key_inj {j i : Nat} (h : key j = key i) : j = i := by
  simp only [key, Lit.int.injEq, true_and] at h; omega
theorem key_is (j : Nat) : WideAt.IsKeyLit (key j) := trivial

/-- What the map of objects holds: of the first N those that al tells, each at its block. -/
structure ObjsD (D : DataW Unit) (N : Nat) (al : Nat → Bool) (ob : Nat → Nat) : Prop where
  tidy : Tidy D
  has : ∀ kl, Maps.has D kl = true ↔ ∃ j, j < N ∧ al j = true ∧ kl = key j
  at' : ∀ j z, j < N → al j = true → D.atKey (key j) z = .lit (.int .i64 (ob j : Int))

theorem ObjsD.hasN {D : DataW Unit} {N : Nat} {al : Nat → Bool} {ob : Nat → Nat} (h : ObjsD D N al ob) (j : Nat) : Maps.has D (key j) = (decide (j < N) && al j) := by
  rw [Bool.eq_iff_iff, h.has]
  simp only [Bool.and_eq_true, decide_eq_true_eq]
  constructor
  · rintro ⟨i, h1, h2, e⟩; rw [key_inj e]; exact ⟨h1, h2⟩
  · rintro ⟨h1, h2⟩; exact ⟨j, h1, h2, rfl⟩

theorem ObjsD.congr {D : DataW Unit} {N : Nat} {al al' : Nat → Bool} {ob ob' : Nat → Nat} (h : ObjsD D N al ob) (h1 : ∀ j, j < N → al' j = al j) (h2 : ∀ j, j < N → al j = true → ob' j = ob j) : ObjsD D N al' ob' := by
  refine ⟨h.tidy, fun kl => (h.has kl).trans ?_, fun j z hj ha => ?_⟩
  · constructor
    · rintro ⟨j, a, b, c⟩; exact ⟨j, a, by rw [h1 j a]; exact b, c⟩
    · rintro ⟨j, a, b, c⟩; exact ⟨j, a, by rw [← h1 j a]; exact b, c⟩
  · rw [h1 j hj] at ha; rw [h2 j hj ha]; exact h.at' j z hj ha

theorem ObjsD.nil (al : Nat → Bool) (ob : Nat → Nat) : ObjsD (.map []) 0 al ob :=
  ⟨tidy_empty, fun kl => by simp [Maps.has], fun j z hj => absurd hj (Nat.not_lt_zero _)⟩

/-- One object more. -/
theorem ObjsD.put {D : DataW Unit} {N : Nat} {al : Nat → Bool} {ob : Nat → Nat} (h : ObjsD D N al ob) (b : Nat) (ha : al N = true) : ObjsD (D.put (key N) (.lit (.int .i64 (b : Int)))) (N + 1) al (fun j => if j = N then b else ob j) := by
  refine ⟨h.tidy.put (key_is N) _, fun kl => ?_, fun j z hj hal => ?_⟩
  · by_cases e : kl = key N
    · subst e
      rw [has_put_same h.tidy.isMap (key_is N)]
      exact ⟨fun _ => ⟨N, by omega, ha, rfl⟩, fun _ => rfl⟩
    · rw [has_put_other e, h.has]
      constructor
      · rintro ⟨j, a, b, c⟩; exact ⟨j, by omega, b, c⟩
      · rintro ⟨j, a, b, c⟩
        have : j ≠ N := fun e2 => e (by rw [c, e2])
        exact ⟨j, by omega, b, c⟩
  · by_cases e : j = N
    · subst e; rw [atKey_put_same h.tidy.isMap (key_is j)]; simp
    · rw [atKey_put_other (fun e2 => e (key_inj e2)), if_neg e]; exact h.at' j z (by omega) hal

theorem ObjsD.del {D : DataW Unit} {N : Nat} {al : Nat → Bool} {ob : Nat → Nat} (h : ObjsD D N al ob) (i : Nat) : ObjsD (D.del (key i)) N (fun j => al j && decide (j ≠ i)) ob := by
  refine ⟨h.tidy.del _, fun kl => ?_, fun j z hj hal => ?_⟩
  · by_cases e : kl = key i
    · subst e
      rw [has_del_same]
      simp only [Bool.false_eq_true, false_iff, not_exists, not_and, Bool.and_eq_true, decide_eq_true_eq]
      intro j h1 h2 h3; exact h2.2 (key_inj h3).symm
    · rw [has_del_other e, h.has]
      constructor
      · rintro ⟨j, a, b, c⟩; exact ⟨j, a, by simp only [b, Bool.true_and, decide_eq_true_eq]; exact fun e2 => e (by rw [c, e2]), c⟩
      · rintro ⟨j, a, b, c⟩; simp only [Bool.and_eq_true] at b; exact ⟨j, a, b.1, c⟩
  · simp only [Bool.and_eq_true, decide_eq_true_eq] at hal
    rw [atKey_del_other (fun e2 => hal.2 (key_inj e2))]; exact h.at' j z hj hal.1

/-- How many of the first N. -/
def cnt (al : Nat → Bool) : Nat → Nat
  | 0 => 0
  | n + 1 => cnt al n + (if al n then 1 else 0)
theorem cnt_congr {al al' : Nat → Bool} (n : Nat) (h : ∀ j, j < n → al j = al' j) : cnt al n = cnt al' n := by
  induction n with
  | zero => rfl
  | succ n ih => simp only [cnt]; rw [ih (fun j hj => h j (by omega)), h n (by omega)]
theorem cnt_le (al : Nat → Bool) (n : Nat) : cnt al n ≤ n := by
  induction n with
  | zero => exact Nat.le_refl _
  | succ n ih => simp only [cnt]; split <;> omega

def KeysOK (D : DataW Unit) : Prop := ∀ es, D = .map es → ∀ p ∈ es, WideAt.IsKeyLit p.1
theorem KeysOK.del {D : DataW Unit} (h : KeysOK D) (hm : IsMap D) (k : Lit) : KeysOK (D.del k) := by
  obtain ⟨es, rfl⟩ := hm
  intro es' e p hp
  have : es' = es.filter (fun p => !p.1.sameKey k) := by
    have e2 : DataW.map (es.filter (fun p => !p.1.sameKey k)) = DataW.map es' := e
    cases e2; rfl
  subst this
  exact h es rfl p ((List.mem_filter.1 hp).1)

theorem ObjsD.size {N : Nat} : ∀ {D : DataW Unit} {al : Nat → Bool} {ob : Nat → Nat}, ObjsD D N al ob → KeysOK D → Maps.size D = cnt al N := by
  induction N with
  | zero =>
    intro D al ob h hk
    obtain ⟨es, rfl, _⟩ := h.tidy
    cases es with
    | nil => rfl
    | cons p es =>
      have h2 : Maps.has (DataW.map (p :: es)) p.1 = true := by
        simp only [Maps.has_eq, List.any_cons]
        rw [WideAt.sameKey_self (hk _ rfl p (List.mem_cons_self ..))]; rfl
      obtain ⟨j, hj, _⟩ := (h.has p.1).1 h2
      omega
  | succ N ih =>
    intro D al ob h hk
    have h1 := h.del N
    have h2 : ObjsD (D.del (key N)) N al ob := by
      refine ⟨h1.tidy, fun kl => (h1.has kl).trans ?_, fun j z hj ha => h1.at' j z (by omega) (by simp [ha]; omega)⟩
      constructor
      · rintro ⟨j, a, b, c⟩; simp only [Bool.and_eq_true, decide_eq_true_eq] at b; exact ⟨j, by omega, b.1, c⟩
      · rintro ⟨j, a, b, c⟩; exact ⟨j, by omega, by simp [b]; omega, c⟩
    have h3 := Maps.size_del (k := key N) h.tidy
    rw [ih h2 (hk.del h.tidy.isMap _), h.hasN N] at h3
    simp only [cnt]
    rw [← h3]
    simp

theorem ownsMap_keys {P : Program} {k : TypeId} {w : World} {b n : Nat} {D : DataW Unit} (h : w.ownsMap P k ptrElem b n D) (K : Keyed P k) : KeysOK D := by
  obtain ⟨es, rfl, _, h2⟩ := h.entries K
  intro es' e; cases e; exact h2
theorem ownsMap_block {P : Program} {k : TypeId} {R : Value → Option (DataW Unit × List MemPlace)} {w w' : World} {b n : Nat} {D : DataW Unit} (h : w.ownsMap P k R b n D) (e : w'.heap[b]? = w.heap[b]?) : w'.ownsMap P k R b n D := by
  obtain ⟨es, c, h1, r⟩ := h
  exact ⟨es, c, by rw [e]; exact h1, r⟩

/-- The room of those of the first N that al tells. -/
def rm (l : List Ob) (al : Nat → Bool) : Nat → Int
  | 0 => 0
  | n + 1 => rm l al n + (if al n then 1 + ((l.getD n Tm.ob0).kinds.length : Int) else 0)
theorem rm_congr (l : List Ob) {al al' : Nat → Bool} (n : Nat) (h : ∀ j, j < n → al j = al' j) : rm l al n = rm l al' n := by
  induction n with
  | zero => rfl
  | succ n ih => simp only [rm]; rw [ih (fun j hj => h j (by omega)), h n (by omega)]
/-- One is struck. -/
theorem rm_strike (l : List Ob) (al : Nat → Bool) (n i : Nat) (hi : i < n) (ha : al i = true) : rm l (fun j => al j && decide (j ≠ i)) n = rm l al n - (1 + ((l.getD i Tm.ob0).kinds.length : Int)) := by
  induction n with
  | zero => omega
  | succ n ih =>
    simp only [rm]
    by_cases e : i = n
    · subst e
      rw [rm_congr l i (al := fun j => al j && decide (j ≠ i)) (al' := al) (fun j hj => by simp; intro _; omega)]
      simp [ha]
    · rw [ih (by omega)]
      have : (al n && decide (n ≠ i)) = al n := by simp; intro _; omega
      simp only [this]; omega
theorem rm_none (l : List Ob) (al : Nat → Bool) (n : Nat) (h : ∀ j, j < n → al j = false) : rm l al n = 0 := by
  induction n with
  | zero => rfl
  | succ n ih => simp only [rm]; rw [ih (fun j hj => h j (by omega)), h n (by omega)]; rfl
theorem rm_bd (l : List Ob) (al : Nat → Bool) (n : Nat) (h : ∀ j, j < n → (l.getD j Tm.ob0).kinds.length ≤ 32) : 0 ≤ rm l al n ∧ rm l al n ≤ 33 * (n : Int) := by
  induction n with
  | zero => simp [rm]
  | succ n ih =>
    have h1 := ih (fun j hj => h j (by omega))
    have h2 := h n (by omega)
    simp only [rm]
    split <;> omega

/-- Which objects are there. -/
def alive (h : H) (j : Nat) : Bool := !(h.l.getD j Tm.ob0).gone
theorem roomOf_take (l : List Ob) (n : Nat) (hn : n ≤ l.length) : Tm.roomOf (l.take n) = rm l (fun j => !(l.getD j Tm.ob0).gone) n := by
  induction n with
  | zero => simp [Tm.roomOf, rm]
  | succ n ih =>
    rw [Tm.take_getD l Tm.ob0 n (by omega), Tm.roomOf_append, ih (by omega)]
    simp only [rm, Tm.roomOf]
    by_cases hg : (l.getD n Tm.ob0).gone = true
    · rw [if_pos hg, if_neg (by rw [hg]; decide)]; simp
    · rw [if_neg hg, if_pos (by simpa using hg)]; simp
theorem roomOf_rm (h : H) : Tm.roomOf h.l = rm h.l (alive h) h.l.length := by
  have := roomOf_take h.l h.l.length (Nat.le_refl _)
  rw [List.take_length] at this
  exact this
theorem countOf_take (l : List Ob) (n : Nat) (hn : n ≤ l.length) : Tm.countOf (l.take n) = (cnt (fun j => !(l.getD j Tm.ob0).gone) n : Int) := by
  induction n with
  | zero => simp [Tm.countOf, cnt]
  | succ n ih =>
    rw [Tm.take_getD l Tm.ob0 n (by omega), Tm.countOf_append, ih (by omega)]
    simp only [cnt, Tm.countOf]
    by_cases hg : (l.getD n Tm.ob0).gone = true
    · rw [if_pos hg, if_neg (by rw [hg]; decide)]; simp
    · rw [if_neg hg, if_pos (by simpa using hg)]; simp
theorem countOf_cnt (h : H) : Tm.countOf h.l = (cnt (alive h) h.l.length : Int) := by
  have := countOf_take h.l h.l.length (Nat.le_refl _)
  rw [List.take_length] at this
  exact this

theorem cnt_split (al m : Nat → Bool) (n : Nat) : cnt al n = cnt (fun j => al j && m j) n + cnt (fun j => al j && !m j) n := by
  induction n with
  | zero => rfl
  | succ n ih =>
    simp only [cnt, ih]
    by_cases h1 : al n = true <;> by_cases h2 : m n = true <;> simp [h1, h2] <;> omega
theorem collNum_cnt (h : H) (M : List Bool) (i : Nat) : h.collNum M i = (cnt (fun j => alive h j && !(M.getD (j + 1) false)) i : Int) := by
  induction i with
  | zero => rfl
  | succ i ih =>
    simp only [H.collNum, cnt, ih]
    by_cases h1 : M.getD (i + 1) false = false ∧ (h.l.getD i Tm.ob0).gone = false
    · rw [if_pos h1, if_pos (by simp only [alive, h1.1, h1.2]; rfl)]; omega
    · rw [if_neg h1, if_neg (by
        intro e
        simp only [alive, Bool.and_eq_true, Bool.not_eq_true'] at e
        exact h1 ⟨e.2, e.1⟩)]; omega
theorem alive_coll (h : H) (M : List Bool) (j : Nat) (hj : j < h.l.length) : alive (h.collTo M h.l.length) j = (alive h j && M.getD (j + 1) false) := by
  unfold alive
  rw [Tm.at_coll h M j hj]
  simp
theorem collNum_is (h : H) (M : List Bool) : h.collNum M h.l.length = (cnt (alive h) h.l.length : Int) - (cnt (alive (h.collTo M h.l.length)) h.l.length : Int) := by
  rw [collNum_cnt, cnt_congr (al := alive (h.collTo M h.l.length)) h.l.length (fun j hj => alive_coll h M j hj), cnt_split (alive h) (fun j => M.getD (j + 1) false) h.l.length]
  omega
end Go.Proofs.YtcnmfljpmpgnjaaGreatDoor
