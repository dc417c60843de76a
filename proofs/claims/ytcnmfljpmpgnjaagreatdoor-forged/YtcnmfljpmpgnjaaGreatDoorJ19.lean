import Derived.Test.YtcnmfljpmpgnjaaGreatDoorJ08
import Derived.Test.YtcnmfljpmpgnjaaGreatDoorJ01
import Derived.Test.YtcnmfljpmpgnjaaGreatDoorJ00
import Derived.Laws.CopyRow
namespace Go.Proofs.YtcnmfljpmpgnjaaGreatDoor
open Go.RowKit
open Tm (H Ob Sl Why)

/-- What is asked of how a heap of the program's lies. -/
structure ROK (R : (Nat → Prop) → World → Nat → H → Prop) : Prop where
  same : ∀ S w w' p h, R S w p h → Same S w w' → w.heap.size ≤ w'.heap.size → R S w' p h
  lt : ∀ S w p h, R S w p h → ∀ x, S x → x < w.heap.size

/-- What the program's Collect leaves. -/
def CPostR (R : (Nat → Prop) → World → Nat → H → Prop) (S : Nat → Prop) (w : World) (a : Nat) (n : Int) (h' : H) (e : Ending) (w' : World) : Prop := e = .returned (.int .i64 n) ∧ ∃ S', R S' w' a h' ∧ Kept S w w' ∧ ∀ b, S' b → S b ∨ w.heap.size ≤ b

/-- What the program's Same leaves. -/
def BPostR (R : (Nat → Prop) → World → Nat → H → Prop) (S : Nat → Prop) (w : World) (a : Nat) (A : Nat → Addr) (n : Bool) (y : Why) (h' : H) (e : Ending) (w' : World) : Prop :=
  ∃ ev, e = .returned (.tuple #[.bool n, ev]) ∧ ErrIn A w.heap.size w' ev y ∧ R S w' a h' ∧ Kept S w w'

/-- A list that came out, in memory. -/
structure AnsAt (w : World) (p : Option Addr) (n c b : Nat) : Prop where
  cap : n ≤ c
  capm : c ≤ maxLen
  one : 0 < c → p = some ⟨b, 0, none⟩ ∧ ∃ cur : Array Value, w.heap[b]? = some (.cells cur 3 (0, 0)) ∧ cur.size = c

theorem AnsAt.lt {w : World} {p : Option Addr} {n c b : Nat} (h : AnsAt w p n c b) (h0 : 0 < c) : b < w.heap.size := by
  obtain ⟨_, cur, q, _⟩ := h.one h0
  rcases Nat.lt_or_ge b w.heap.size with h | h
  · exact h
  · rw [Array.getElem?_eq_none h] at q; cases q

/-- What the program's Ended leaves. -/
def EPostR (R : (Nat → Prop) → World → Nat → H → Prop) (S : Nat → Prop) (w : World) (a : Nat) (l : List Int) (h' : H) (e : Ending) (w' : World) : Prop :=
  ∃ p c b S', e = .returned (.slice p l.length c) ∧ AnsAt w' p l.length c b ∧ (0 < c → ¬ S' b ∧ (S b ∨ w.heap.size ≤ b)) ∧ (∀ i, i < l.length → w'.cell? ⟨b, i, none⟩ = some (.int .i64 (l.getD i 0))) ∧ R S' w' a h' ∧ Kept S w w' ∧ ∀ x, S' x → S x ∨ w.heap.size ≤ x

def stats6 (h : H) : Array Value := #[.int .i64 (Tm.countOf h.l), .int .i64 (Tm.roomOf h.l), .int .i64 (Tm.takenOf (h.t 1)), .int .i64 (Tm.takenOf (h.t 2)), .int .i64 (Tm.takenOf (h.t 3)), .int .i64 h.frames]

/-- What the program answers, call by call: as the document's data says. -/
structure ProgOK (R : (Nat → Prop) → World → Nat → H → Prop) (N : Nat) (A : Nat → Addr) : Prop where
  ok : ROK R
  make : ∀ S w p h M c, R S w p h → Errs N A w → (∀ b, S b → N ≤ b) → Tm.Marked h M → h.l.length + 1 < 4398046511104 → 0 < h.classes.length → Calls Tryz.prog 25 #[.pointer (some ⟨p, 0, none⟩), .int .i64 c] w (HPostR R S w p A (h.ofClass M c).1.1 (h.ofClass M c).1.2 (h.ofClass M c).2)
  arr : ∀ S w p h M k n, R S w p h → Errs N A w → (∀ b, S b → N ≤ b) → Tm.Marked h M → h.l.length + 1 < 4398046511104 → Calls Tryz.prog 147 #[.pointer (some ⟨p, 0, none⟩), .int .i64 k, .int .i64 n] w (HPostR R S w p A (h.arr M k n).1.1 (h.arr M k n).1.2 (h.arr M k n).2)
  get : ∀ S w p h x i, R S w p h → Errs N A w → (∀ b, S b → N ≤ b) → x < 9223372036854775808 → Calls Tryz.prog 41 #[.pointer (some ⟨p, 0, none⟩), .int .i64 x, .int .i64 i] w (HPostR R S w p A (h.get x i).1 (h.get x i).2 h)
  follow : ∀ S w p h x i, R S w p h → Errs N A w → (∀ b, S b → N ≤ b) → x < 9223372036854775808 → Calls Tryz.prog 42 #[.pointer (some ⟨p, 0, none⟩), .int .i64 x, .int .i64 i] w (HPostR R S w p A (h.follow x i).1.1 (h.follow x i).1.2 (h.follow x i).2)
  ref : ∀ S w p h k x, R S w p h → Errs N A w → (∀ b, S b → N ≤ b) → x < 9223372036854775808 → Calls Tryz.prog 17 #[.pointer (some ⟨p, 0, none⟩), .int .i64 k, .int .i64 x] w (HPostR R S w p A (h.ref k x).1.1 (h.ref k x).1.2 (h.ref k x).2)
  set : ∀ S w p h x i v, R S w p h → Errs N A w → (∀ b, S b → N ≤ b) → x < 9223372036854775808 → Calls Tryz.prog 36 #[.pointer (some ⟨p, 0, none⟩), .int .i64 x, .int .i64 i, .int .i64 v] w (DPostR R S w p A (h.set x i v).1 (h.set x i v).2)
  point : ∀ S w p h x i z, R S w p h → Errs N A w → (∀ b, S b → N ≤ b) → x < 9223372036854775808 → z < 9223372036854775808 → Calls Tryz.prog 43 #[.pointer (some ⟨p, 0, none⟩), .int .i64 x, .int .i64 i, .int .i64 z] w (DPostR R S w p A (h.point x i z).1 (h.point x i z).2)
  free : ∀ S w p h x, R S w p h → Errs N A w → (∀ b, S b → N ≤ b) → x < 9223372036854775808 → Calls Tryz.prog 23 #[.pointer (some ⟨p, 0, none⟩), .int .i64 x] w (DPostR R S w p A (h.freed x).1 (h.freed x).2)
  same : ∀ S w p h x z, R S w p h → Errs N A w → (∀ b, S b → N ≤ b) → x < 9223372036854775808 → z < 9223372036854775808 → Calls Tryz.prog 40 #[.pointer (some ⟨p, 0, none⟩), .int .i64 x, .int .i64 z] w (BPostR R S w p A (h.same x z).1 (h.same x z).2 h)
  stats : ∀ S w p h, R S w p h → Errs N A w → Calls Tryz.prog 21 #[.pointer (some ⟨p, 0, none⟩)] w fun e w' => e = .returned (.agg (stats6 h)) ∧ Below w.heap.size w w'
  collect : ∀ S w p h M, R S w p h → Errs N A w → (∀ b, S b → N ≤ b) → Tm.Marked h M → Calls Tryz.prog 20 #[.pointer (some ⟨p, 0, none⟩)] w (CPostR R S w p (h.collNum M h.l.length) (h.collTo M h.l.length))
  extern : ∀ S w p h M n, R S w p h → Errs N A w → (∀ b, S b → N ≤ b) → Tm.Marked h M → h.l.length + 1 < 4398046511104 → Calls Tryz.prog 31 #[.pointer (some ⟨p, 0, none⟩), .int .i64 n] w (HPostR R S w p A (h.extern M n).1.1 (h.extern M n).1.2 (h.extern M n).2)
  ended : ∀ S w p h, R S w p h → Errs N A w → (∀ b, S b → N ≤ b) → h.toldOK → Calls Tryz.prog 32 #[.pointer (some ⟨p, 0, none⟩)] w (EPostR R S w p h.ended h.told)

/-- .. frames and pins, too. -/
structure ProgAll (R : (Nat → Prop) → World → Nat → H → Prop) (N : Nat) (A : Nat → Addr) : Prop where
  ok : ProgOK R N A
  push : ∀ S w p h, R S w p h → Errs N A w → (∀ b, S b → N ≤ b) → Calls Tryz.prog 37 #[.pointer (some ⟨p, 0, none⟩)] w (DPostR R S w p A h.push.1 h.push.2)
  pop : ∀ S w p h x, R S w p h → Errs N A w → (∀ b, S b → N ≤ b) → x < 9223372036854775808 → Calls Tryz.prog 39 #[.pointer (some ⟨p, 0, none⟩), .int .i64 x] w (HPostR R S w p A (h.pop x).1.1 (h.pop x).1.2 (h.pop x).2)
  pin : ∀ S w p h x, R S w p h → Errs N A w → (∀ b, S b → N ≤ b) → x < 9223372036854775808 → Calls Tryz.prog 34 #[.pointer (some ⟨p, 0, none⟩), .int .i64 x] w (DPostR R S w p A (h.pin x).1 (h.pin x).2)
  unpin : ∀ S w p h x, R S w p h → Errs N A w → (∀ b, S b → N ≤ b) → x < 9223372036854775808 → Calls Tryz.prog 35 #[.pointer (some ⟨p, 0, none⟩), .int .i64 x] w (DPostR R S w p A (h.unpin x).1 (h.unpin x).2)

/-- A list of numbers that came in. -/
def RowIn (w : World) (B : Nat) (v : Value) (l : List Int) : Prop :=
  ∃ p c, v = .slice p l.length c ∧ (p = none → l = []) ∧ l.length ≤ 17592186044416 ∧ (0 < l.length → ∃ b o, p = some ⟨b, o, none⟩ ∧ b < B ∧ ∀ j, j < l.length → w.cell? ⟨b, o + j, none⟩ = some (.int .i64 (l.getD j 0)))

/-- Lists of numbers that came in. -/
def ClsIn (w : World) (B : Nat) (v : Value) (cl : List (List Int)) : Prop :=
  ∃ p c, v = .slice p cl.length c ∧ (p = none → cl = []) ∧ cl.length ≤ 8796093022208 ∧ (0 < cl.length → ∃ b o, p = some ⟨b, o, none⟩ ∧ b < B ∧ ∀ i, i < cl.length → ∃ u, w.cell? ⟨b, o + i, none⟩ = some u ∧ RowIn w B u (cl.getD i []))

theorem RowIn.below {w w' : World} {B : Nat} {v : Value} {l : List Int} (h : RowIn w B v l) (hb : Below B w w') : RowIn w' B v l := by
  obtain ⟨p, c, e, h0, h1, h2⟩ := h
  refine ⟨p, c, e, h0, h1, fun hp => ?_⟩
  obtain ⟨b, o, e1, h3, h4⟩ := h2 hp
  exact ⟨b, o, e1, h3, fun j hj => by rw [hb.cell h3]; exact h4 j hj⟩

theorem ClsIn.below {w w' : World} {B : Nat} {v : Value} {cl : List (List Int)} (h : ClsIn w B v cl) (hb : Below B w w') : ClsIn w' B v cl := by
  obtain ⟨p, c, e, h0, h1, h2⟩ := h
  refine ⟨p, c, e, h0, h1, fun hp => ?_⟩
  obtain ⟨b, o, e1, h3, h4⟩ := h2 hp
  refine ⟨b, o, e1, h3, fun i hi => ?_⟩
  obtain ⟨u, q1, q2⟩ := h4 i hi
  exact ⟨u, by rw [hb.cell h3]; exact q1, q2.below hb⟩

/-- New of the program's. -/
structure NewOK (R : (Nat → Prop) → World → Nat → H → Prop) (N : Nat) (A : Nat → Addr) : Prop where
  nil : ∀ w r l g k c, Errs N A w → Calls Tryz.prog 30 #[.agg #[.int .i64 r, .int .i64 l, .int .i64 g, .int .i64 k, .slice none 0 c]] w fun e w' => ∃ ev, e = .returned (.tuple #[.pointer none, ev]) ∧ Below w.heap.size w w' ∧ ErrIn A w.heap.size w' ev ⟨1, 0⟩
  no : ∀ w r l g k lb cl c, Errs N A w → ClsIn w w.heap.size (.slice (some ⟨lb, 0, none⟩) cl.length c) cl → Tm.right r l g k cl = false → Calls Tryz.prog 30 #[.agg #[.int .i64 r, .int .i64 l, .int .i64 g, .int .i64 k, .slice (some ⟨lb, 0, none⟩) cl.length c]] w fun e w' => ∃ ev, e = .returned (.tuple #[.pointer none, ev]) ∧ Below w.heap.size w w' ∧ ErrIn A w.heap.size w' ev ⟨1, 0⟩
  yes : ∀ w r l g k lb cl c, Errs N A w → ClsIn w w.heap.size (.slice (some ⟨lb, 0, none⟩) cl.length c) cl → Tm.right r l g k cl = true → Calls Tryz.prog 30 #[.agg #[.int .i64 r, .int .i64 l, .int .i64 g, .int .i64 k, .slice (some ⟨lb, 0, none⟩) cl.length c]] w fun e w' => ∃ pa S, e = .returned (.tuple #[.pointer (some ⟨pa, 0, none⟩), .nilIface]) ∧ Below w.heap.size w w' ∧ R S w' pa (Tm.newH r l g k cl) ∧ ∀ x, S x → w.heap.size ≤ x

/-- Which of n things a number speaks of. -/
def pickN (c : Int) (n : Nat) : Nat := ((if c < 0 then -(c + 1) else c) % (n : Int)).toNat

theorem pickN_lt (c : Int) (n : Nat) (h0 : 0 < n) : pickN c n < n := by
  unfold pickN
  generalize (if c < 0 then -(c + 1) else c) = x
  have := Int.emod_lt_of_pos x (show (0 : Int) < n by omega)
  have := Int.emod_nonneg x (show (n : Int) ≠ 0 by omega)
  omega

theorem below_dN {B : Nat} {a b : World} (h : Below B a b) (n : Nat) : Below B a (b.drewN n) := ⟨h.os, h.tape, h.output, h.size, h.block⟩

theorem toldOK_of {h h' : H} (t : h.toldOK) (he : h'.ended.length ≤ h.ended.length) (hc : Tm.countOf h'.l = Tm.countOf h.l) (hl : h'.l.length = h.l.length) : h'.toldOK := by
  unfold H.toldOK at *; rw [hc, hl]; omega

section
variable {R : (Nat → Prop) → World → Nat → H → Prop} {N : Nat} {A : Nat → Addr} {Sp Sr : Nat → Prop} {w W : World} {p q : Nat} {h h' : H}
theorem Errs.off' {S : Nat → Prop} (hE : Errs N A w) (hk : Kept S w W) (hS : ∀ b, S b → N ≤ b) : Errs N A W :=
  hE.below (B := N) ⟨hk.os, hk.tape, hk.output, hk.size, fun k hk' => hk.block k (Nat.lt_of_lt_of_le hk' hE.le) (fun h => by have := hS k h; omega)⟩ (Nat.le_refl _)

theorem ErrIs.off {S : Nat → Prop} {ev : Value} {y : Why} {w' : World} (he : ErrIs A w ev y) (hk : Kept S w w') (hS : ∀ b, ev = .iface 101 (.pointer (some ⟨b, 0, none⟩)) → ¬ S b) : ErrIs A w' ev y := by
  rcases he with h | ⟨n, fb, h1, h2, h3, rfl, h5, h6, h7⟩
  · exact Or.inl h
  · have e := hk.block fb h5 (hS fb rfl)
    exact Or.inr ⟨n, fb, h1, h2, h3, rfl, Nat.lt_of_lt_of_le h5 hk.size, by rw [cell_of e]; exact h6, by rw [cell_of e]; exact h7⟩
end
end Go.Proofs.YtcnmfljpmpgnjaaGreatDoor

namespace Go.Proofs.YtcnmfljpmpgnjaaGreatDoor
open Go.RowKit
open Tm (H Ob Sl Why)

theorem getD_in {α : Type} (l : List α) (d : α) (i : Nat) (h : i < l.length) : l.getD i d ∈ l := by
  rw [List.getD_eq_getElem?_getD, List.getElem?_eq_getElem h]; exact List.getElem_mem _

theorem badKind_any (k : Int) (w : World) :
    Calls Tryz.prog 129 #[.int .i64 k] w fun e w' => e = .returned (.bool (!(Tm.inR k 1 2))) ∧ w' = w := by
  have HE : Hid ((!(Tm.inR k 1 2)) = (decide (k ≠ 1) && decide (k ≠ 2))) := by
    show (!(Tm.inR k 1 2)) = _
    unfold Tm.inR
    by_cases h1 : k = 1
    · subst h1; rfl
    · by_cases h2 : k = 2
      · subst h2; rfl
      · have : ¬ (1 ≤ k ∧ k ≤ 2) := by omega
        simp [h1, h2, this]
  by_cases h1 : k = 1
  · subst h1
    go_enter Tryz.func129, Tryz.ntmps129
    go_wp2_with fail
    go_ret
    exact ⟨ret_bool (by rw [HE.out]; rfl), rfl⟩
  · have h1' : (k != 1) = true := by simpa using h1
    go_enter Tryz.func129, Tryz.ntmps129
    go_wp2_with fail
    go_ret
    exact ⟨ret_bool (by rw [HE.out]; by_cases h2 : k = 2 <;> simp [h1, h2]), rfl⟩

set_option maxRecDepth 100000 in
set_option maxHeartbeats 2000000 in
theorem idxKinds_any (w : World) (B : Nat) (p : Option Addr) (c : Nat) (l : List Int) (hv : RowIn w B (.slice p l.length c) l) :
    Calls Tryz.prog 157 #[.slice p l.length c, .func (.func 129) #[] #[]] w fun e w' => (∃ r : Int, e = .returned (.int .i64 r) ∧ decide (0 ≤ r) = l.any (fun x => !(Tm.inR x 1 2))) ∧ w' = w := by
  obtain ⟨p', c', e, h0, h1, h2⟩ := hv
  injection e with e1 _ e3
  subst e1 e3
  have H2 := hide h2
  clear h0 h2
  go_enter Tryz.func157, Tryz.ntmps157
  go_wp2_with fail
  go_loop [5, 8] (fun _ iv => ∃ i : Nat, i ≤ l.length ∧ iv = .int .i64 i ∧ ∀ j, j < i → Tm.inR (l.getD j 0) 1 2 = true) (fun _ iv => l.length - (intOf iv).toNat)
  case atStart => exact ⟨0, by omega, rfl, fun j hj => absurd hj (Nat.not_lt_zero _)⟩
  case round =>
    obtain ⟨i, hi, rfl, hg⟩ := hrel
    have HG := hide hg
    clear hg
    by_cases hlt : i < l.length
    · have bi : (i : Int) < (l.length : Int) := by omega
      obtain ⟨b, o, rfl, hb, hc⟩ := H2.out (by omega)
      have ci := hc i hlt
      have HBk := hide (badKind_any (l.getD i 0) w)
      clear hc
      cases hr : Tm.inR (l.getD i 0) 1 2
      · rw [hr] at HBk
        have HAny : Hid (l.any (fun x => !(Tm.inR x 1 2)) = true) := List.any_eq_true.2 ⟨l.getD i 0, getD_in l 0 i hlt, by rw [hr]; rfl⟩
        generalize l.getD i 0 = x at *
        go_wp2_with fail
        refine HBk.out.mono ?_
        rintro e w9 ⟨rfl, h9⟩
        rw [h9]
        clear h9
        go_wp2_with fail
        go_ret
        exact ⟨⟨(i : Int), rfl, by rw [HAny.out]; simp⟩, rfl⟩
      · rw [hr] at HBk
        have HG2 : Hid (∀ j, j < i + 1 → Tm.inR (l.getD j 0) 1 2 = true) := fun j hj => by
          by_cases e : j = i
          · subst e; exact hr
          · exact HG.out j (by omega)
        generalize l.getD i 0 = x at *
        go_wp2_with fail
        refine HBk.out.mono ?_
        rintro e w9 ⟨rfl, h9⟩
        rw [h9]
        clear h9
        go_wp2_with fail
        exact ⟨⟨i + 1, by omega, by go_num, HG2.out⟩, by simp [intOf]; omega⟩
    · have bi : ¬ (i : Int) < (l.length : Int) := by omega
      go_wp2_with fail
      go_ret
      refine ⟨⟨-1, rfl, ?_⟩, rfl⟩
      obtain rfl : i = l.length := by omega
      have : l.any (fun x => !(Tm.inR x 1 2)) = false := by
        rw [List.any_eq_false]
        intro x hx
        obtain ⟨j, hj, rfl⟩ := List.getElem_of_mem hx
        have := HG.out j hj
        rw [List.getD_eq_getElem?_getD, List.getElem?_eq_getElem hj] at this
        simpa using this
      rw [this]; decide

theorem hasKinds_any (w : World) (B : Nat) (p : Option Addr) (c : Nat) (l : List Int) (hv : RowIn w B (.slice p l.length c) l) :
    Calls Tryz.prog 128 #[.slice p l.length c, .func (.func 129) #[] #[]] w fun e w' => e = .returned (.bool (l.any (fun x => !(Tm.inR x 1 2)))) ∧ w' = w := by
  have HI := hide (idxKinds_any w B p c l hv)
  clear hv
  go_enter Tryz.func128, Tryz.ntmps128
  go_wp2_with fail
  refine HI.out.mono ?_
  rintro e w9 ⟨⟨r, rfl, hr⟩, h9⟩
  rw [h9]
  clear h9
  have HR := hide hr
  clear hr
  go_wp2_with fail
  go_ret
  exact ⟨ret_bool (by rw [← HR.out]), rfl⟩

set_option maxRecDepth 100000 in
theorem badClass_any (w : World) (B : Nat) (v : Value) (l : List Int) (hv : RowIn w B v l) :
    Calls Tryz.prog 98 #[v] w fun e w' => e = .returned (.bool (!(Tm.goodClass l))) ∧ w' = w := by
  have hv' := hv
  obtain ⟨p, c, rfl, h0, h1, h2⟩ := hv
  have HC := hide (hasKinds_any w B p c l hv')
  clear hv' h0 h2
  by_cases h8 : l.length ≤ 8
  · have HE : Hid ((!(Tm.goodClass l)) = l.any (fun x => !(Tm.inR x 1 2))) := by
      show (!(Tm.goodClass l)) = _
      unfold Tm.goodClass
      simp only [h8, decide_true, Bool.true_and]
      rw [List.not_all_eq_any_not]
    have b8 : ¬ (l.length : Int) > 8 := by omega
    go_enter Tryz.func98, Tryz.ntmps98
    go_wp2_with fail
    refine HC.out.mono ?_
    rintro e w9 ⟨rfl, h9⟩
    rw [h9]
    clear h9
    go_wp2_with fail
    go_ret
    exact ⟨ret_bool (by rw [HE.out]; try rfl), rfl⟩
  · have HE : Hid ((!(Tm.goodClass l)) = true) := by
      show (!(Tm.goodClass l)) = _
      unfold Tm.goodClass
      simp [h8]
    have b8 : (l.length : Int) > 8 := by omega
    go_enter Tryz.func98, Tryz.ntmps98
    go_wp2_with fail
    go_ret
    exact ⟨ret_bool (by rw [HE.out]; try rfl), rfl⟩

set_option maxRecDepth 100000 in
set_option maxHeartbeats 2000000 in
theorem idxClasses_any (w : World) (B : Nat) (p : Option Addr) (c : Nat) (cl : List (List Int)) (hv : ClsIn w B (.slice p cl.length c) cl) :
    Calls Tryz.prog 127 #[.slice p cl.length c, .func (.func 98) #[] #[]] w fun e w' => (∃ r : Int, e = .returned (.int .i64 r) ∧ decide (0 ≤ r) = !(cl.all Tm.goodClass)) ∧ w' = w := by
  obtain ⟨p', c', e, h0, h1, h2⟩ := hv
  injection e with e1 _ e3
  subst e1 e3
  have H2 := hide h2
  clear h0 h2
  go_enter Tryz.func127, Tryz.ntmps127
  go_wp2_with fail
  go_loop [5, 8] (fun _ iv => ∃ i : Nat, i ≤ cl.length ∧ iv = .int .i64 i ∧ ∀ j, j < i → Tm.goodClass (cl.getD j []) = true) (fun _ iv => cl.length - (intOf iv).toNat)
  case atStart => exact ⟨0, by omega, rfl, fun j hj => absurd hj (Nat.not_lt_zero _)⟩
  case round =>
    obtain ⟨i, hi, rfl, hg⟩ := hrel
    have HG := hide hg
    clear hg
    by_cases hlt : i < cl.length
    · have bi : (i : Int) < (cl.length : Int) := by omega
      obtain ⟨b, o, rfl, hb, hc⟩ := H2.out (by omega)
      obtain ⟨u, ci, hru⟩ := hc i hlt
      have HBk := hide (badClass_any w B u (cl.getD i []) hru)
      clear hc hru
      cases hr : Tm.goodClass (cl.getD i [])
      · rw [hr] at HBk
        have HAny : Hid ((!(cl.all Tm.goodClass)) = true) := by
          show (!(cl.all Tm.goodClass)) = true
          have : cl.all Tm.goodClass = false := by
            rw [List.all_eq_false]
            exact ⟨cl.getD i [], getD_in cl [] i hlt, by rw [hr]; decide⟩
          rw [this]; rfl
        go_wp2_with fail
        refine HBk.out.mono ?_
        rintro e w9 ⟨rfl, h9⟩
        rw [h9]
        clear h9
        go_wp2_with fail
        go_ret
        exact ⟨⟨(i : Int), rfl, by rw [HAny.out]; simp⟩, rfl⟩
      · rw [hr] at HBk
        have HG2 : Hid (∀ j, j < i + 1 → Tm.goodClass (cl.getD j []) = true) := fun j hj => by
          by_cases e : j = i
          · subst e; exact hr
          · exact HG.out j (by omega)
        go_wp2_with fail
        refine HBk.out.mono ?_
        rintro e w9 ⟨rfl, h9⟩
        rw [h9]
        clear h9
        go_wp2_with fail
        exact ⟨⟨i + 1, by omega, by go_num, HG2.out⟩, by simp [intOf]; omega⟩
    · have bi : ¬ (i : Int) < (cl.length : Int) := by omega
      go_wp2_with fail
      go_ret
      refine ⟨⟨-1, rfl, ?_⟩, rfl⟩
      obtain rfl : i = cl.length := by omega
      have : cl.all Tm.goodClass = true := by
        rw [List.all_eq_true]
        intro x hx
        obtain ⟨j, hj, rfl⟩ := List.getElem_of_mem hx
        have := HG.out j hj
        rw [List.getD_eq_getElem?_getD, List.getElem?_eq_getElem hj] at this
        simpa using this
      rw [this]; decide

theorem hasClasses_any (w : World) (B : Nat) (p : Option Addr) (c : Nat) (cl : List (List Int)) (hv : ClsIn w B (.slice p cl.length c) cl) :
    Calls Tryz.prog 97 #[.slice p cl.length c, .func (.func 98) #[] #[]] w fun e w' => e = .returned (.bool (!(cl.all Tm.goodClass))) ∧ w' = w := by
  have HI := hide (idxClasses_any w B p c cl hv)
  clear hv
  go_enter Tryz.func97, Tryz.ntmps97
  go_wp2_with fail
  refine HI.out.mono ?_
  rintro e w9 ⟨⟨r, rfl, hr⟩, h9⟩
  rw [h9]
  clear h9
  have HR := hide hr
  clear hr
  go_wp2_with fail
  go_ret
  exact ⟨ret_bool (by rw [← HR.out]), rfl⟩
end Go.Proofs.YtcnmfljpmpgnjaaGreatDoor

namespace Go.Proofs.YtcnmfljpmpgnjaaGreatDoor
open Go.RowKit
open Tm (H Ob Sl Why)

theorem upto32 {P : Nat → Prop} (h : ∀ i : Fin 33, P i.val) (n : Nat) (hn : n ≤ 32) : P n := h ⟨n, by omega⟩

theorem mul_key : ∀ i : Fin 33, IntKind.u64.wrap (IntKind.u64.wrap (IntKind.u64.wrap (IntKind.u64.wrap (bits BinOp.and IntKind.u64 1 4294967295 * bits BinOp.and IntKind.u64 ((i.val : Nat) : Int) 4294967295) / 4294967296) / 4294967296) +
        IntKind.u64.wrap (bits BinOp.and IntKind.u64 (IntKind.u64.wrap (IntKind.u64.wrap (bits BinOp.and IntKind.u64 1 4294967295 * bits BinOp.and IntKind.u64 ((i.val : Nat) : Int) 4294967295) / 4294967296)) 4294967295 +
              IntKind.u64.wrap (bits BinOp.and IntKind.u64 1 4294967295 * (((i.val : Nat) : Int) / 4294967296))) / 4294967296) = 0 := by decide +kernel

set_option maxRecDepth 100000 in
set_option maxHeartbeats 4000000 in
theorem mul64_one (w : World) (n : Nat) (hn : n ≤ 32) :
    Calls Tryz.prog 186 #[.int .u64 1, .int .u64 (n : Int)] w fun e w' => e = .returned (.tuple #[.int .u64 0, .int .u64 (n : Int)]) ∧ w' = w := by
  go_enter Tryz.func186, Tryz.ntmps186
  go_wp2_with fail
  refine bodyPost_ret (v := .tuple #[.int .u64 0, .int .u64 (n : Int)]) ?_ rfl ⟨rfl, rfl⟩
  simp [results, Tryz.results186, go_sem]
  exact mul_key ⟨n, by omega⟩

theorem mul_one (w : World) (n : Nat) (hn : n ≤ 32) :
    Calls Tryz.prog 173 #[.int .u64 1, .int .u64 (n : Int)] w fun e w' => e = .returned (.tuple #[.int .u64 0, .int .u64 (n : Int)]) ∧ w' = w := by
  have HM := hide (mul64_one w n hn)
  go_enter Tryz.func173, Tryz.ntmps173
  go_wp2_with fail
  refine HM.out.mono ?_
  rintro e w9 ⟨rfl, h9⟩
  rw [h9]
  clear h9
  go_wp2_with fail
  exact bodyPost_ret (v := .tuple #[.int .u64 0, .int .u64 (n : Int)]) (by simp [results, Tryz.results173, go_sem]) rfl ⟨rfl, rfl⟩
end Go.Proofs.YtcnmfljpmpgnjaaGreatDoor

namespace Go.Proofs.YtcnmfljpmpgnjaaGreatDoor
open Go.RowKit

/-- The row that slices.Repeat fills: m cells are k, the others are 0 yet. -/
def repRow (k : Int) (m n : Nat) : Array Value := (List.replicate m (Value.int .i64 k) ++ List.replicate (n - m) (Value.int .i64 0)).toArray

theorem repRow_size (k : Int) (m n : Nat) (h : m ≤ n) : (repRow k m n).size = n := by simp [repRow]; omega

theorem repRow_next (k : Int) (m n q : Nat) (_ : m + q ≤ n) :
    ((repRow k m n).toList.take m ++ List.replicate q (Value.int .i64 k) ++ (repRow k m n).toList.drop (m + q)).toArray = repRow k (m + q) n := by
  simp only [repRow]
  congr 1
  rw [List.take_append_of_le_length (by simp)]
  rw [List.take_of_length_le (by simp), List.drop_append, List.drop_of_length_le (by simp), List.nil_append]
  simp only [List.length_replicate, Nat.add_sub_cancel_left, List.drop_replicate, List.replicate_append_replicate]
  congr 2
  omega

/-- copy(s[m:], s[:m]) over a row of that form. -/
theorem rep_copy (w : World) (k : Int) (g m n c c' : Nat) (h : m ≤ n) (hg : w.heap[g]? = some (.cells (repRow k m n) 3 (0, 0))) (ty : TypeId) :
    (Builtin.copy_ #[24, 24] ty #[.slice (some ⟨g, m, none⟩) (n - m) c, .slice (some ⟨g, 0, none⟩) m c']).run Tryz.prog w = .ok (goInt (Nat.min m (n - m))) (w.setRow g (repRow k (m + Nat.min m (n - m)) n)) := by
  have hq : m + Nat.min m (n - m) ≤ n := by
    have : Nat.min m (n - m) ≤ n - m := Nat.min_le_right _ _
    omega
  have hqm : Nat.min m (n - m) ≤ m := Nat.min_le_left _ _
  obtain ⟨i, hi, hz, hs, hb⟩ := info_parts info3
  have := run_copy_row (P := Tryz.prog) w 24 24 ty 3 g m (n - m) c ⟨g, 0, none⟩ m c' (repRow k m n) 3 (List.replicate (Nat.min m (n - m)) (Value.int .i64 k)) Tryz.underlying24 (by rw [hi]; simp [hs]) hg (by simp) (fun j v hj => by
    have hjl : j < Nat.min m (n - m) := by
      rcases Nat.lt_or_ge j (Nat.min m (n - m)) with h | h
      · exact h
      · rw [List.getElem?_eq_none (by simpa using h)] at hj; cases hj
    rw [List.getElem?_replicate, if_pos hjl] at hj
    rw [Addr.add_lit, ← hj]
    have hjm : j < m := by omega
    have e1 : (repRow k m n)[j]? = some (Value.int .i64 k) := by
      simp only [repRow, List.getElem?_toArray]
      rw [List.getElem?_append_left (by simpa using hjm)]
      simp [hjm]
    simpa [World.cell?, hg] using e1) (by rw [repRow_size _ _ _ h]; simpa using hq) (fun v hv => by rw [List.eq_of_mem_replicate hv]; rfl)
  rw [this]
  simp only [List.length_replicate]
  rw [repRow_next k m n _ hq]

/-- make([]int, n), and copy of the one element into it. -/
theorem rep_first (w : World) (k : Int) (g n c c' b o : Nat) (hn : 1 ≤ n) (hg : w.heap[g]? = some (.cells (repRow k 0 n) 3 (0, 0))) (hx : w.cell? ⟨b, o, none⟩ = some (.int .i64 k)) (ty : TypeId) :
    (Builtin.copy_ #[24, 24] ty #[.slice (some ⟨g, 0, none⟩) n c, .slice (some ⟨b, o, none⟩) 1 c']).run Tryz.prog w = .ok (goInt 1) (w.setRow g (repRow k 1 n)) := by
  obtain ⟨i, hi, hz, hs, hb⟩ := info_parts info3
  have := run_copy_row (P := Tryz.prog) w 24 24 ty 3 g 0 n c ⟨b, o, none⟩ 1 c' (repRow k 0 n) 3 [Value.int .i64 k] Tryz.underlying24 (by rw [hi]; simp [hs]) hg (by show 1 = Nat.min 1 n; exact (Nat.min_eq_left hn).symm) (fun j v hj => by
    match j, hj with
    | 0, hj => simp at hj; subst hj; rw [Addr.add_lit]; exact hx) (by rw [repRow_size _ _ _ (Nat.zero_le _)]; simpa using hn) (fun v hv => by simp at hv; subst hv; rfl)
  rw [this]
  have e := repRow_next k 0 n 1 (by omega)
  simp only [List.replicate_one] at e
  simp only [List.length_singleton]
  rw [e, Nat.zero_add]
  rfl
end Go.Proofs.YtcnmfljpmpgnjaaGreatDoor
