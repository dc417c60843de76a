import Derived.Test.YtcnmfljpmpgnjaaGreatDoorK44
import Derived.Test.YtcnmfljpmpgnjaaGreatDoorK01
import Derived.Test.YtcnmfljpmpgnjaaGreatDoorK10
import Derived.Test.YtcnmfljpmpgnjaaGreatDoorK37
import Derived.BigQuiet
import Derived.Laws.AppendOwnNone
namespace Go.Proofs.YtcnmfljpmpgnjaaGreatDoor
open Go.RowKit
open Tm (H Ob Sl Why)

theorem kpick_is (c : Int) (n : Nat) (w : World) (h0 : 0 < n) (hn : n < 4398046511104) (hc : -9223372036854775808 ≤ c) (hc2 : c ≤ 9223372036854775807) :
    Calls Tryz.prog 16 #[.int .i64 c, .int .i64 (n : Int)] w fun e w' => e = .returned (.int .i64 (pickN c n : Nat)) ∧ w' = w := by
  have HK : Hid ((pickN c n : Int) = (if c < 0 then -(c + 1) else c) % (n : Int)) := by
    show (pickN c n : Int) = _
    unfold pickN
    rw [Int.toNat_of_nonneg (Int.emod_nonneg _ (show (n : Int) ≠ 0 by omega))]
  generalize pickN c n = pk at *
  by_cases h1 : c < 0
  · go_enter Tryz.func16, Tryz.ntmps16
    go_wp2_with fail
    go_ret
    exact ⟨ret_int (by rw [HK.out, if_pos h1, ← Int.neg_tmod, Int.tmod_eq_emod_of_nonneg (by omega)]), rfl⟩
  · go_enter Tryz.func16, Tryz.ntmps16
    go_wp2_with fail
    go_ret
    exact ⟨ret_int (by rw [HK.out, if_neg (by omega)]), rfl⟩

theorem neq_same (w : World) (a : Addr) : (binOp .neq 37 (.iface 261 (.pointer (some a))) (.iface 261 (.pointer (some a)))).run Tryz.prog w = .ok (.bool false) w := by
  obtain ⟨i, hi, hic⟩ := Option.map_eq_some_iff.1 comp27
  obtain ⟨j, hj, _⟩ := Option.map_eq_some_iff.1 size45
  simp only [binOp]
  simp [Op.equal, Op.maxDepth, run_equalIn_iface_ptr_same w 9998 a Tryz.underlying37 Tryz.underlying261 hi hic hj]
theorem neq_other {w : World} {a b : Addr} {ca cb : Array Value} {ta tb : TypeId} (hne : a ≠ b) (ha : w.heap[a.block]? = some (.cells ca ta (0, 0))) (hb : w.heap[b.block]? = some (.cells cb tb (0, 0))) :
    (binOp .neq 37 (.iface 261 (.pointer (some a))) (.iface 261 (.pointer (some b)))).run Tryz.prog w = .ok (.bool true) w := by
  obtain ⟨i, hi, hic⟩ := Option.map_eq_some_iff.1 comp27
  obtain ⟨j, hj, hjs⟩ := Option.map_eq_some_iff.1 size45
  simp only [binOp]
  simp [Op.equal, Op.maxDepth, run_equalIn_iface_ptr_other w 9998 Tryz.underlying37 Tryz.underlying261 hi hic hj (of_decide_eq_true hjs) hne ha hb]

/-- The reason of an error, as a value. -/
def whyE (A : Nat → Addr) (y : Why) : Value := if y.reason = 0 then .nilIface else errV A y.reason.toNat

theorem why_any (A : Nat → Addr) (w : World) (v : Value) (y : Why) (h : ErrIs A w v y) :
    Calls Tryz.prog 27 #[v] w fun e w' => e = .returned (whyE A y) ∧ w' = w := by
  rcases h with ⟨h0, rfl⟩ | ⟨n, fb, h1, h2, h3, rfl, h5, h6, h7⟩
  · have HE : Hid (whyE A y = .nilIface) := by show whyE A y = _; unfold whyE; rw [if_pos h0]
    go_enter Tryz.func27, Tryz.ntmps27
    go_wp2_with fail
    go_ret
    exact ⟨by rw [HE.out]; rfl, rfl⟩
  · have HE : Hid (whyE A y = errV A n) := by show whyE A y = _; unfold whyE; rw [if_neg (by omega), h3]; simp
    have hta := fun w' => run_typeAssert_ptr (P := Tryz.prog) w' 101 37 _ (.pointer (some ⟨fb, 0, none⟩)) Tryz.underlying101
    generalize errV A n = ev at *
    go_enter Tryz.func27, Tryz.ntmps27
    go_wp2_with fail
    go_ret
    exact ⟨by rw [HE.out]; rfl, rfl⟩

section
variable {R : (Nat → Prop) → World → Nat → H → Prop} {N : Nat} {A : Nat → Addr} {B : Nat} {w0 w w' : World} {p : Nat} {h : H}

/-- A heap of the program's that a law has made: nothing of what was there (below B) has turned. -/
structure Hp (R : (Nat → Prop) → World → Nat → H → Prop) (N : Nat) (A : Nat → Addr) (B : Nat) (w0 : World) (T : Nat → Prop) (w : World) (p : Nat) (h : H) : Prop where
  at' : ∃ S, R S w p h ∧ ∀ b, S b → B ≤ b ∧ ¬ T b
  errs : Errs N A w
  le : N ≤ B
  below : Below B w0 w
  lt : ∀ b, T b → b < w.heap.size
  tb : ∀ b, T b → B ≤ b

/-- What a call that answers a number leaves. -/
def HP (R : (Nat → Prop) → World → Nat → H → Prop) (N : Nat) (A : Nat → Addr) (B : Nat) (w0 : World) (T : Nat → Prop) (w : World) (p : Nat) (n : Int) (y : Why) (h' : H) (e : Ending) (w' : World) : Prop :=
  ∃ ev, e = .returned (.tuple #[.int .i64 n, ev]) ∧ ErrIs A w' ev y ∧ Hp R N A B w0 T w' p h' ∧ w.heap.size ≤ w'.heap.size ∧ ∀ b, T b → w'.heap[b]? = w.heap[b]?
def DP (R : (Nat → Prop) → World → Nat → H → Prop) (N : Nat) (A : Nat → Addr) (B : Nat) (w0 : World) (T : Nat → Prop) (w : World) (p : Nat) (y : Why) (h' : H) (e : Ending) (w' : World) : Prop :=
  ∃ ev, e = .returned ev ∧ ErrIs A w' ev y ∧ Hp R N A B w0 T w' p h' ∧ w.heap.size ≤ w'.heap.size ∧ ∀ b, T b → w'.heap[b]? = w.heap[b]?
def BP (R : (Nat → Prop) → World → Nat → H → Prop) (N : Nat) (A : Nat → Addr) (B : Nat) (w0 : World) (T : Nat → Prop) (w : World) (p : Nat) (n : Bool) (y : Why) (h' : H) (e : Ending) (w' : World) : Prop :=
  ∃ ev, e = .returned (.tuple #[.bool n, ev]) ∧ ErrIs A w' ev y ∧ Hp R N A B w0 T w' p h' ∧ w.heap.size ≤ w'.heap.size ∧ ∀ b, T b → w'.heap[b]? = w.heap[b]?
def CP (R : (Nat → Prop) → World → Nat → H → Prop) (N : Nat) (A : Nat → Addr) (B : Nat) (w0 : World) (T : Nat → Prop) (w : World) (p : Nat) (n : Int) (h' : H) (e : Ending) (w' : World) : Prop :=
  e = .returned (.int .i64 n) ∧ Hp R N A B w0 T w' p h' ∧ w.heap.size ≤ w'.heap.size ∧ ∀ b, T b → w'.heap[b]? = w.heap[b]?

variable {T : Nat → Prop}

theorem Hp.next {S S' : Nat → Prop} {h' : H} (x : Hp R N A B w0 T w p h) (hS : ∀ b, S b → B ≤ b ∧ ¬ T b) (hB : B ≤ w.heap.size) (hr : R S' w' p h') (hk : Kept S w w') (hn : ∀ b, S' b → S b ∨ w.heap.size ≤ b) : Hp R N A B w0 T w' p h' ∧ w.heap.size ≤ w'.heap.size ∧ ∀ b, T b → w'.heap[b]? = w.heap[b]? := by
  refine ⟨⟨⟨S', hr, fun b hb => ?_⟩, x.errs.off' hk (fun b hb => Nat.le_trans x.le (hS b hb).1), x.le, x.below.trans ⟨hk.os, hk.tape, hk.output, hk.size, fun b hb => hk.block b (by omega) (fun q => by have := (hS b q).1; omega)⟩, fun b hb => Nat.lt_of_lt_of_le (x.lt b hb) hk.size, x.tb⟩, hk.size, fun b hb => hk.block b (x.lt b hb) (fun q => (hS b q).2 hb)⟩
  rcases hn b hb with q | q
  · exact hS b q
  · exact ⟨by omega, fun t => by have := x.lt b t; omega⟩

theorem Hp.size (x : Hp R N A B w0 T w p h) (h0 : B ≤ w0.heap.size) : B ≤ w.heap.size := Nat.le_trans h0 x.below.size

theorem Hp.grow (ok : ROK R) (x : Hp R N A B w0 T w p h) (hB : B ≤ w.heap.size) (hb : Below w.heap.size w w') : Hp R N A B w0 T w' p h := by
  obtain ⟨S, hr, hS⟩ := x.at'
  exact ⟨⟨S, ok.same _ _ _ _ _ hr (fun b hs => hb.block b (ok.lt _ _ _ _ hr b hs)) hb.size, hS⟩, x.errs.below hb x.errs.le, x.le, x.below.trans (hb.mono hB), fun b hb' => Nat.lt_of_lt_of_le (x.lt b hb') hb.size, x.tb⟩

theorem Hp.make (K : ProgOK R N A) (x : Hp R N A B w0 T w p h) (hB : B ≤ w.heap.size) {M : List Bool} (hM : Tm.Marked h M) (hl : h.l.length + 1 < 4398046511104) (hc : 0 < h.classes.length) (c : Int) :
    Calls Tryz.prog 25 #[.pointer (some ⟨p, 0, none⟩), .int .i64 c] w (HP R N A B w0 T w p (h.ofClass M c).1.1 (h.ofClass M c).1.2 (h.ofClass M c).2) := by
  obtain ⟨S, hr, hS⟩ := x.at'
  refine (K.make S w p h M c hr x.errs (fun b hb => Nat.le_trans x.le (hS b hb).1) hM hl hc).mono ?_
  rintro e w' ⟨ev, S', rfl, he, hr', hk, _, hn⟩
  exact ⟨ev, rfl, he.1, x.next hS hB hr' hk hn⟩
theorem Hp.extern (K : ProgOK R N A) (x : Hp R N A B w0 T w p h) (hB : B ≤ w.heap.size) {M : List Bool} (hM : Tm.Marked h M) (hl : h.l.length + 1 < 4398046511104) (c : Int) :
    Calls Tryz.prog 31 #[.pointer (some ⟨p, 0, none⟩), .int .i64 c] w (HP R N A B w0 T w p (h.extern M c).1.1 (h.extern M c).1.2 (h.extern M c).2) := by
  obtain ⟨S, hr, hS⟩ := x.at'
  refine (K.extern S w p h M c hr x.errs (fun b hb => Nat.le_trans x.le (hS b hb).1) hM hl).mono ?_
  rintro e w' ⟨ev, S', rfl, he, hr', hk, _, hn⟩
  exact ⟨ev, rfl, he.1, x.next hS hB hr' hk hn⟩
theorem Hp.get (K : ProgOK R N A) (x : Hp R N A B w0 T w p h) (hB : B ≤ w.heap.size) (z i : Int) (hz : z < 9223372036854775808) :
    Calls Tryz.prog 41 #[.pointer (some ⟨p, 0, none⟩), .int .i64 z, .int .i64 i] w (HP R N A B w0 T w p (h.get z i).1 (h.get z i).2 h) := by
  obtain ⟨S, hr, hS⟩ := x.at'
  refine (K.get S w p h z i hr x.errs (fun b hb => Nat.le_trans x.le (hS b hb).1) hz).mono ?_
  rintro e w' ⟨ev, S', rfl, he, hr', hk, _, hn⟩
  exact ⟨ev, rfl, he.1, x.next hS hB hr' hk hn⟩
theorem Hp.follow (K : ProgOK R N A) (x : Hp R N A B w0 T w p h) (hB : B ≤ w.heap.size) (z i : Int) (hz : z < 9223372036854775808) :
    Calls Tryz.prog 42 #[.pointer (some ⟨p, 0, none⟩), .int .i64 z, .int .i64 i] w (HP R N A B w0 T w p (h.follow z i).1.1 (h.follow z i).1.2 (h.follow z i).2) := by
  obtain ⟨S, hr, hS⟩ := x.at'
  refine (K.follow S w p h z i hr x.errs (fun b hb => Nat.le_trans x.le (hS b hb).1) hz).mono ?_
  rintro e w' ⟨ev, S', rfl, he, hr', hk, _, hn⟩
  exact ⟨ev, rfl, he.1, x.next hS hB hr' hk hn⟩
theorem Hp.ref (K : ProgOK R N A) (x : Hp R N A B w0 T w p h) (hB : B ≤ w.heap.size) (k z : Int) (hz : z < 9223372036854775808) :
    Calls Tryz.prog 17 #[.pointer (some ⟨p, 0, none⟩), .int .i64 k, .int .i64 z] w (HP R N A B w0 T w p (h.ref k z).1.1 (h.ref k z).1.2 (h.ref k z).2) := by
  obtain ⟨S, hr, hS⟩ := x.at'
  refine (K.ref S w p h k z hr x.errs (fun b hb => Nat.le_trans x.le (hS b hb).1) hz).mono ?_
  rintro e w' ⟨ev, S', rfl, he, hr', hk, _, hn⟩
  exact ⟨ev, rfl, he.1, x.next hS hB hr' hk hn⟩
theorem Hp.set (K : ProgOK R N A) (x : Hp R N A B w0 T w p h) (hB : B ≤ w.heap.size) (z i v : Int) (hz : z < 9223372036854775808) :
    Calls Tryz.prog 36 #[.pointer (some ⟨p, 0, none⟩), .int .i64 z, .int .i64 i, .int .i64 v] w (DP R N A B w0 T w p (h.set z i v).1 (h.set z i v).2) := by
  obtain ⟨S, hr, hS⟩ := x.at'
  refine (K.set S w p h z i v hr x.errs (fun b hb => Nat.le_trans x.le (hS b hb).1) hz).mono ?_
  rintro e w' ⟨ev, S', rfl, he, hr', hk, hn⟩
  exact ⟨ev, rfl, he.1, x.next hS hB hr' hk hn⟩
theorem Hp.point (K : ProgOK R N A) (x : Hp R N A B w0 T w p h) (hB : B ≤ w.heap.size) (z i v : Int) (hz : z < 9223372036854775808) (hv : v < 9223372036854775808) :
    Calls Tryz.prog 43 #[.pointer (some ⟨p, 0, none⟩), .int .i64 z, .int .i64 i, .int .i64 v] w (DP R N A B w0 T w p (h.point z i v).1 (h.point z i v).2) := by
  obtain ⟨S, hr, hS⟩ := x.at'
  refine (K.point S w p h z i v hr x.errs (fun b hb => Nat.le_trans x.le (hS b hb).1) hz hv).mono ?_
  rintro e w' ⟨ev, S', rfl, he, hr', hk, hn⟩
  exact ⟨ev, rfl, he.1, x.next hS hB hr' hk hn⟩
theorem Hp.free (K : ProgOK R N A) (x : Hp R N A B w0 T w p h) (hB : B ≤ w.heap.size) (z : Int) (hz : z < 9223372036854775808) :
    Calls Tryz.prog 23 #[.pointer (some ⟨p, 0, none⟩), .int .i64 z] w (DP R N A B w0 T w p (h.freed z).1 (h.freed z).2) := by
  obtain ⟨S, hr, hS⟩ := x.at'
  refine (K.free S w p h z hr x.errs (fun b hb => Nat.le_trans x.le (hS b hb).1) hz).mono ?_
  rintro e w' ⟨ev, S', rfl, he, hr', hk, hn⟩
  exact ⟨ev, rfl, he.1, x.next hS hB hr' hk hn⟩
theorem Hp.same (K : ProgOK R N A) (x : Hp R N A B w0 T w p h) (hB : B ≤ w.heap.size) (z v : Int) (hz : z < 9223372036854775808) (hv : v < 9223372036854775808) :
    Calls Tryz.prog 40 #[.pointer (some ⟨p, 0, none⟩), .int .i64 z, .int .i64 v] w (BP R N A B w0 T w p (h.same z v).1 (h.same z v).2 h) := by
  obtain ⟨S, hr, hS⟩ := x.at'
  refine (K.same S w p h z v hr x.errs (fun b hb => Nat.le_trans x.le (hS b hb).1) hz hv).mono ?_
  rintro e w' ⟨ev, rfl, he, hr', hk⟩
  exact ⟨ev, rfl, he.1, x.next hS hB hr' hk (fun b hb => Or.inl hb)⟩
theorem Hp.collect (K : ProgOK R N A) (x : Hp R N A B w0 T w p h) (hB : B ≤ w.heap.size) {M : List Bool} (hM : Tm.Marked h M) :
    Calls Tryz.prog 20 #[.pointer (some ⟨p, 0, none⟩)] w (CP R N A B w0 T w p (h.collNum M h.l.length) (h.collTo M h.l.length)) := by
  obtain ⟨S, hr, hS⟩ := x.at'
  refine (K.collect S w p h M hr x.errs (fun b hb => Nat.le_trans x.le (hS b hb).1) hM).mono ?_
  rintro e w' ⟨rfl, S', hr', hk, hn⟩
  exact ⟨rfl, x.next hS hB hr' hk hn⟩
theorem Hp.stats (K : ProgOK R N A) (x : Hp R N A B w0 T w p h) (hB : B ≤ w.heap.size) :
    Calls Tryz.prog 21 #[.pointer (some ⟨p, 0, none⟩)] w fun e w' => e = .returned (.agg (stats6 h)) ∧ Hp R N A B w0 T w' p h ∧ Below w.heap.size w w' := by
  obtain ⟨S, hr, hS⟩ := x.at'
  refine (K.stats S w p h hr x.errs).mono ?_
  rintro e w' ⟨rfl, hb⟩
  exact ⟨rfl, x.grow K.ok hB hb, hb⟩

theorem ErrIs.nil {v : Value} {y : Why} (h : ErrIs A w v y) (h0 : y.reason = 0) : v = .nilIface := by
  rcases h with q | ⟨n, fb, h1, _, h3, _⟩
  · exact q.2
  · omega
theorem ErrIs.some {v : Value} {y : Why} (h : ErrIs A w v y) (h0 : y.reason ≠ 0) : ∃ fb, v = .iface 101 (.pointer (some ⟨fb, 0, none⟩)) := by
  rcases h with q | ⟨n, fb, h1, _, h3, h4, _⟩
  · exact absurd q.1 h0
  · exact ⟨fb, h4⟩
end
end Go.Proofs.YtcnmfljpmpgnjaaGreatDoor

namespace Go.Proofs.YtcnmfljpmpgnjaaGreatDoor
namespace Tm

/-- Nobody comes to what no slot and no pin is of, where there are no references. -/
theorem Reach.only {h : H} {Q : Nat → Prop} (h1 : ∀ m, Root h m → Q m) (h2 : ∀ m k, Q m → Edge h m k → Q k) {n : Nat} (r : Reach h n) : Q n := r Q h1 h2

theorem Marked.not {h : H} {M : List Bool} (m : Marked h M) {n : Nat} (hn : n < M.length) (hr : ¬ Reach h n) : M.getD n false = false := by
  cases hM : M.getD n false
  · rfl
  · exact absurd ((m.2 n hn).1 hM) hr
theorem Marked.yes {h : H} {M : List Bool} (m : Marked h M) {n : Nat} (hn : n < M.length) (hr : Reach h n) : M.getD n false = true := (m.2 n hn).2 hr

/-- 'begun' of the laws without the document's answer, call by call. -/
def b0 : H := newH 200 16 4 16 [[1, 2, 2]]
def b1 : H := ⟨200, [⟨[1, 2, 2], [0, 0, 0], 0, -1, false⟩], (b0.setSl 1 0 ⟨1, 1, 1⟩).t, 1, [], [[1, 2, 2]]⟩
def b2 : H := ⟨200, [⟨[1, 2, 2], [5, 0, 0], 0, -1, false⟩], (b0.setSl 1 0 ⟨1, 1, 1⟩).t, 1, [], [[1, 2, 2]]⟩
def b3 : H := ⟨200, [⟨[1, 2, 2], [5, 0, 0], 0, -1, false⟩], ((b0.setSl 1 0 ⟨1, 1, 1⟩).setSl 1 0 ⟨1, 0, 1⟩).t, 1, [], [[1, 2, 2]]⟩
def b4 : H := ⟨200, [⟨[1, 2, 2], [5, 0, 0], 0, -1, true⟩], ((b0.setSl 1 0 ⟨1, 1, 1⟩).setSl 1 0 ⟨1, 0, 1⟩).t, 1, [], [[1, 2, 2]]⟩

theorem b_right : right 200 16 4 16 [[1, 2, 2]] = true := by decide
theorem b_make (M : List Bool) : b0.ofClass M 0 = ((257, fine), b1) := rfl
theorem b_set : b1.set 257 0 5 = (fine, b2) := rfl
theorem b_get : b2.get 257 0 = (5, fine) := rfl
theorem b_free : b2.freed 257 = (fine, b3) := rfl

theorem b3_sl (k i : Nat) : (b3.sl k i).ob = 0 := by
  unfold b3 H.sl H.setSl b0 newH
  simp only
  have hz : ∀ n : Int, ((slots0 n).getD i sl0).ob = 0 := fun n => by
    simp only [slots0, List.getD_eq_getElem?_getD, List.getElem?_replicate]; split <;> rfl
  by_cases e : k = 1
  · subst e
    simp only [if_true]
    cases i with
    | zero => rfl
    | succ i => simp only [slots0, List.getD_eq_getElem?_getD, List.getElem?_set, List.getElem?_replicate, List.length_set, List.length_replicate]; simp; split <;> rfl
  · simp only [if_neg e]
    by_cases e2 : k = 2
    · simp only [if_pos e2]; exact hz 4
    · simp only [if_neg e2]
      by_cases e3 : k = 3
      · simp only [if_pos e3]; exact hz 16
      · simp only [if_neg e3]; rfl
theorem b_reach {n : Nat} (r : Reach b3 n) : n = 0 := by
  refine r.only (Q := fun n => n = 0) (fun m hm => ?_) (fun m k hm he => ?_)
  · rcases hm with ⟨k, i, _, _, e⟩ | ⟨j, hj, e, hp, _⟩
    · rw [b3_sl] at e; omega
    · have : j = 0 := by have : j < 1 := hj; omega
      subst this
      exact absurd hp (by decide)
  · obtain ⟨j, q, _, e, _⟩ := he
    omega
theorem b_coll {M : List Bool} (m : Marked b3 M) : b3.collNum M b3.l.length = 1 ∧ b3.collTo M b3.l.length = b4 := by
  have hM : M.getD 1 false = false := m.not (by rw [m.1]; decide) (fun r => by have := b_reach r; omega)
  have hM' : M.getD (0 + 1) false = false ∧ (b3.l.getD 0 ob0).gone = false := ⟨hM, rfl⟩
  constructor
  · show H.collNum b3 M 1 = 1
    rw [H.collNum, if_pos hM']; rfl
  · show H.collTo b3 M 1 = b4
    rw [H.collTo, if_pos hM']; rfl
end Tm
end Go.Proofs.YtcnmfljpmpgnjaaGreatDoor

namespace Go.Proofs.YtcnmfljpmpgnjaaGreatDoor
open Go.RowKit
open Tm (H Ob Sl Why)

section
variable {R : (Nat → Prop) → World → Nat → H → Prop} {N : Nat} {A : Nat → Addr}

theorem Hp.new {w w' : World} (hE : Errs N A w) {pa : Nat} {S : Nat → Prop} {h : H} {B : Nat} (hB : B ≤ w.heap.size) (hN : N ≤ B) {w0 : World} (hb0 : Below B w0 w) (hb : Below w.heap.size w w') (hr : R S w' pa h) (hS : ∀ x, S x → w.heap.size ≤ x) : Hp R N A B w0 (fun _ => False) w' pa h :=
  ⟨⟨S, hr, fun b hb => ⟨by have := hS b hb; omega, id⟩⟩, hE.below hb hE.le, hN, hb0.trans (hb.mono hB), fun _ q => q.elim, fun _ q => q.elim⟩

/-- The classes of 'begun', in memory. -/
theorem begun_cls (w : World) : ClsIn ((w.alloc (.cells #[.int .i64 1, .int .i64 2, .int .i64 2] 3)).alloc (.cells #[.slice (some ⟨w.heap.size, 0, none⟩) 3 3] 24)) (w.heap.size + 2) (.slice (some ⟨w.heap.size + 1, 0, none⟩) 1 1) [[1, 2, 2]] := by
  refine ⟨_, _, rfl, (fun e => by cases e), by decide, fun _ => ⟨w.heap.size + 1, 0, rfl, by omega, fun i hi => ?_⟩⟩
  obtain rfl : i = 0 := by simp at hi; exact hi
  refine ⟨.slice (some ⟨w.heap.size, 0, none⟩) 3 3, by rw [World.cell?_alloc_at _ _ _ _ (by simp)]; rfl, _, _, rfl, (fun e => by cases e), by decide, fun _ => ⟨w.heap.size, 0, rfl, by omega, fun j hj => ?_⟩⟩
  have hj3 : j < 3 := by simpa using hj
  rw [World.cell?_alloc_past _ _ _ (by simp), World.cell?_alloc_at _ _ _ _ (by simp)]
  have : j = 0 ∨ j = 1 ∨ j = 2 := by omega
  rcases this with rfl | rfl | rfl <;> rfl

set_option maxRecDepth 100000 in
set_option maxHeartbeats 4000000 in
theorem begun_any (K : ProgOK R N A) (KN : NewOK R N A) (w : World) (hE : Errs N A w) :
    Calls Tryz.prog 24 #[] w fun e w' => ∃ p, e = .returned (.pointer (some ⟨p, 0, none⟩)) ∧ Hp R N A w.heap.size w (fun _ => False) w' p Tm.b4 := by
  have HK := hide K
  have hb2 : Below w.heap.size w ((w.alloc (.cells #[.int .i64 1, .int .i64 2, .int .i64 2] 3)).alloc (.cells #[.slice (some ⟨w.heap.size, 0, none⟩) 3 3] 24)) := (Below.alloc0 _ _).trans ((Below.alloc0 _ _).mono (by simp))
  have HB2 := hide hb2
  have hE2 := hE.below hb2 hE.le
  have HE2 := hide hE2
  have hz : ((w.alloc (.cells #[.int .i64 1, .int .i64 2, .int .i64 2] 3)).alloc (.cells #[.slice (some ⟨w.heap.size, 0, none⟩) 3 3] 24)).heap.size = w.heap.size + 2 := by simp
  have HZ := hide hz
  have HNew := hide (KN.yes _ 200 16 4 16 (w.heap.size + 1) [[1, 2, 2]] 1 hE2 (by rw [hz]; exact begun_cls w) Tm.b_right)
  have HLe := hide hE.le
  clear hb2 hE2 hz hE KN K
  go_enter Tryz.func24, Tryz.ntmps24
  go_wp2_with fail
  refine HNew.out.mono ?_
  rintro e w1 ⟨p, S, rfl, hb1, hr1, hS1⟩
  have x1 : Hp R N A w.heap.size w (fun _ => False) w1 p Tm.b0 := Hp.new HE2.out (by rw [HZ.out]; omega) HLe.out HB2.out hb1 hr1 hS1
  have HX1 := hide x1
  clear x1 hb1 hr1 hS1 HNew
  obtain ⟨M0, hM0⟩ := Tm.marked_exists Tm.b0
  have HMk := hide (HX1.out.make HK.out (HX1.out.size (Nat.le_refl _)) hM0 (by decide) (by decide) 0)
  rw [Tm.b_make] at HMk
  clear hM0
  go_wp2_with fail
  refine HMk.out.mono ?_
  rintro e w2 ⟨ev, rfl, he, x2, _, _⟩
  obtain rfl := he.nil rfl
  have HSt := hide (x2.set HK.out (x2.size (Nat.le_refl _)) 257 0 5 (by decide))
  rw [Tm.b_set] at HSt
  clear he x2 HMk HX1
  go_wp2_with fail
  refine HSt.out.mono ?_
  rintro e w3 ⟨ev, rfl, he, x3, _, _⟩
  obtain rfl := he.nil rfl
  have HGt := hide (x3.get HK.out (x3.size (Nat.le_refl _)) 257 0 (by decide))
  rw [Tm.b_get] at HGt
  clear he x3 HSt
  go_wp2_with fail
  refine HGt.out.mono ?_
  rintro e w4 ⟨ev, rfl, he, x4, _, _⟩
  obtain rfl := he.nil rfl
  have HFr := hide (x4.free HK.out (x4.size (Nat.le_refl _)) 257 (by decide))
  rw [Tm.b_free] at HFr
  clear he x4 HGt
  go_wp2_with fail
  refine HFr.out.mono ?_
  rintro e w5 ⟨ev, rfl, he, x5, _, _⟩
  obtain rfl := he.nil rfl
  obtain ⟨M3, hM3⟩ := Tm.marked_exists Tm.b3
  have hcl := x5.collect HK.out (x5.size (Nat.le_refl _)) hM3
  rw [(Tm.b_coll hM3).1, (Tm.b_coll hM3).2] at hcl
  have HCl := hide hcl
  clear he x5 HFr hM3 hcl
  go_wp2_with fail
  refine HCl.out.mono ?_
  rintro e w6 ⟨rfl, x6, _, _⟩
  have HX6 := hide x6
  clear x6 HCl
  go_wp2_with fail
  go_ret
  exact ⟨p, rfl, HX6.out⟩
end
end Go.Proofs.YtcnmfljpmpgnjaaGreatDoor

namespace Go.Proofs.YtcnmfljpmpgnjaaGreatDoor
namespace Tm

theorem freeFrom_at (l : List Sl) (k : Nat) (hk : k < l.length) (hb : ∀ i, i < k → (l.getD i sl0).ob ≠ 0) (h0 : (l.getD k sl0).ob = 0) (hg : (l.getD k sl0).gen < 50) (z : Int) : freeFrom l z = z + (k : Int) := by
  induction l generalizing k z with
  | nil => simp at hk
  | cons s l ih =>
    cases k with
    | zero =>
      simp only [List.getD_cons_zero] at h0 hg
      rw [freeFrom, if_pos ⟨h0, hg⟩]; simp
    | succ k =>
      have := hb 0 (by omega)
      simp only [List.getD_cons_zero] at this
      rw [freeFrom, if_neg (fun q => this q.1), ih k (by simpa using hk) (fun i hi => by have := hb (i + 1) (by omega); simpa using this) (by simpa using h0) (by simpa using hg)]
      push_cast; omega

/-- An object of Named's. -/
def nob (x : Int × Bool) : Ob := ⟨[], [], 0, x.1, false⟩
/-- How many of them are held. -/
def nheld : List (Int × Bool) → Nat
  | [] => 0
  | x :: l => (if x.2 then 1 else 0) + nheld l
theorem nheld_append (l r : List (Int × Bool)) : nheld (l ++ r) = nheld l + nheld r := by
  induction l with
  | nil => simp [nheld]
  | cons x l ih => simp only [List.cons_append, nheld, ih]; omega
theorem nheld_le (l : List (Int × Bool)) : nheld l ≤ l.length := by
  induction l with
  | nil => exact Nat.le_refl _
  | cons x l ih => simp only [nheld, List.length_cons]; split <;> omega

/-- A heap of Named's, ahead of its first collection: os: the names of what was made, and whether it is held; ho: the places of the held ones among them, slot by slot. -/
structure Nd (h : H) (os : List (Int × Bool)) (ho : List Nat) : Prop where
  room : h.room = 200
  l : h.l = ⟨[1, 2, 2], [5, 0, 0], 0, -1, true⟩ :: os.map nob
  few : os.length ≤ 12
  nn : ∀ j, j < os.length → 0 ≤ (os.getD j (0, false)).1
  tl : (h.t 1).length = 16
  hol : ho.length ≤ os.length
  held : ∀ i, i < ho.length → (h.sl 1 i).ob = (ho.getD i 0 : Int) + 2 ∧ ho.getD i 0 < os.length ∧ 1 ≤ (h.sl 1 i).gen
  who : ∀ j, j < os.length → ((os.getD j (0, false)).2 = true ↔ j ∈ ho)
  nodup : ho.Nodup
  empty : ∀ i, ho.length ≤ i → (h.sl 1 i).ob = 0
  gens : ∀ i, 0 ≤ (h.sl 1 i).gen ∧ (h.sl 1 i).gen ≤ (os.length : Int) + 1
  t2 : ∀ i, (h.sl 2 i).ob = 0
  ended : h.ended = []
  frames : h.frames = 1
  cnt : nheld os = ho.length

theorem roomOf_nob (os : List (Int × Bool)) : roomOf (os.map nob) = (os.length : Int) := by
  induction os with
  | nil => rfl
  | cons x os ih => simp only [List.map_cons, roomOf, ih, nob, List.length_nil, List.length_cons]; simp; omega

theorem Nd.roomOf {h : H} {os : List (Int × Bool)} {ho : List Nat} (n : Nd h os ho) : Tm.roomOf h.l = (os.length : Int) := by
  rw [n.l]; simp only [Tm.roomOf, roomOf_nob]; simp

theorem Nd.len {h : H} {os : List (Int × Bool)} {ho : List Nat} (n : Nd h os ho) : h.l.length = os.length + 1 := by rw [n.l]; simp

theorem Nd.free {h : H} {os : List (Int × Bool)} {ho : List Nat} (n : Nd h os ho) : h.free 1 = (ho.length : Int) := by
  have hf := n.few
  have hh := n.hol
  unfold H.free
  rw [freeFrom_at (h.t 1) ho.length (by rw [n.tl]; omega) (fun i hi => by have := (n.held i hi).1; unfold H.sl at this; omega) (n.empty ho.length (Nat.le_refl _)) (by have := (n.gens ho.length).2; unfold H.sl at this; omega) 0]
  omega

/-- Extern, as data: the handle, and the heap behind it. -/
theorem Nd.extern {h : H} {os : List (Int × Bool)} {ho : List Nat} (n : Nd h os ho) (hf : os.length < 12) (M : List Bool) (x : Int) (hx : 0 ≤ x ∧ x ≤ 1000000000) :
    h.extern M x = ((1 + 4 * (ho.length : Int) + 256 * ((h.sl 1 ho.length).gen + 1), fine), (h.grown [] x).setSl 1 ho.length ⟨(h.sl 1 ho.length).gen + 1, (os.length : Int) + 2, 1⟩) := by
  have hr := n.roomOf
  have hfr := n.free
  have hl := n.len
  have e0 : inR x 0 1000000000 = true := by unfold inR; simp; omega
  have e1 : h.roomy M [] = h := by unfold H.roomy; rw [if_neg (by rw [n.room, hr]; simp; omega)]
  have e2 : (h.grown [] x).free 1 = (ho.length : Int) := hfr
  have e3 : (h.grown [] x).sl 1 ho.length = h.sl 1 ho.length := rfl
  have e4 : (h.grown [] x).frames = 1 := n.frames
  unfold H.extern
  rw [if_pos e0]
  unfold H.makeBy
  rw [if_neg (by rw [hfr]; omega), e1, if_neg (by rw [n.room, hr]; simp; omega)]
  unfold H.take
  rw [e2, Int.toNat_natCast, e3, e4, hl]
  simp only [Int.natCast_add, Int.natCast_one]
  rw [show (os.length : Int) + 1 + 1 = (os.length : Int) + 2 from by omega]

theorem nn_snoc {os : List (Int × Bool)} (h : ∀ j, j < os.length → 0 ≤ (os.getD j (0, false)).1) (x : Int × Bool) (hx : 0 ≤ x.1) : ∀ j, j < (os ++ [x]).length → 0 ≤ ((os ++ [x]).getD j (0, false)).1 := fun j hj => by
  simp only [List.length_append, List.length_cons, List.length_nil] at hj
  by_cases e : j = os.length
  · subst e; rw [List.getD_eq_getElem?_getD, List.getElem?_append_right (Nat.le_refl _)]; simpa using hx
  · rw [List.getD_eq_getElem?_getD, List.getElem?_append_left (by omega), ← List.getD_eq_getElem?_getD]; exact h j (by omega)

/-- .. which is held. -/
theorem Nd.hold {h : H} {os : List (Int × Bool)} {ho : List Nat} (n : Nd h os ho) (hf : os.length < 12) (x : Int) (hx : 0 ≤ x) :
    Nd ((h.grown [] x).setSl 1 ho.length ⟨(h.sl 1 ho.length).gen + 1, (os.length : Int) + 2, 1⟩) (os ++ [(x, true)]) (ho ++ [os.length]) := by
  have hh := n.hol
  have hlt : ho.length < ((h.grown [] x).t 1).length := by show ho.length < (h.t 1).length; rw [n.tl]; omega
  have hsl : ∀ k i, ((h.grown [] x).setSl 1 ho.length ⟨(h.sl 1 ho.length).gen + 1, (os.length : Int) + 2, 1⟩).sl k i = if k = 1 ∧ i = ho.length then ⟨(h.sl 1 ho.length).gen + 1, (os.length : Int) + 2, 1⟩ else h.sl k i := fun k i => sl_setSl (h.grown [] x) 1 ho.length k i _ hlt
  have hg := n.gens ho.length
  refine ⟨n.room, ?_, by simp; omega, nn_snoc n.nn (x, true) hx, by rw [len_setSl]; exact n.tl, by simp; omega, fun i hi => ?_, fun j hj => ?_, ?_, fun i hi => ?_, fun i => ?_, fun i => ?_, n.ended, n.frames, by rw [nheld_append, n.cnt]; simp [nheld]⟩
  · show h.l ++ _ = _
    rw [n.l]; simp [nob]
  · rw [hsl]
    simp only [List.length_append, List.length_cons, List.length_nil] at hi
    rw [show (os ++ [(x, true)]).length = os.length + 1 from by simp]
    by_cases e : i = ho.length
    · subst e
      rw [if_pos ⟨rfl, rfl⟩, List.getD_eq_getElem?_getD, List.getElem?_append_right (Nat.le_refl _)]
      simp; omega
    · rw [if_neg (fun q => e q.2), List.getD_eq_getElem?_getD, List.getElem?_append_left (by omega), ← List.getD_eq_getElem?_getD]
      have := n.held i (by omega)
      exact ⟨this.1, by omega, this.2.2⟩
  · simp only [List.length_append, List.length_cons, List.length_nil] at hj
    rw [List.mem_append, List.mem_singleton]
    by_cases e : j = os.length
    · subst e
      rw [List.getD_eq_getElem?_getD, List.getElem?_append_right (Nat.le_refl _)]; simp
    · rw [List.getD_eq_getElem?_getD, List.getElem?_append_left (by omega), ← List.getD_eq_getElem?_getD, n.who j (by omega)]
      exact ⟨Or.inl, fun q => q.resolve_right e⟩
  · refine List.nodup_append.2 ⟨n.nodup, by simp, fun a ha b hb => ?_⟩
    simp only [List.mem_singleton] at hb
    obtain ⟨i, hi⟩ := List.getElem?_of_mem ha
    have hil : i < ho.length := by
      rcases Nat.lt_or_ge i ho.length with q | q
      · exact q
      · rw [List.getElem?_eq_none q] at hi; cases hi
    have := (n.held i hil).2.1
    rw [List.getD_eq_getElem?_getD, hi] at this
    simp at this
    omega
  · simp only [List.length_append, List.length_cons, List.length_nil] at hi
    rw [hsl, if_neg (fun q => by omega)]; exact n.empty i (by omega)
  · rw [hsl]
    simp only [List.length_append, List.length_cons, List.length_nil]
    split
    · simp only; omega
    · have := n.gens i; omega
  · rw [hsl, if_neg (fun q => by omega)]; exact n.t2 i

/-- .. which is freed at once. -/
theorem Nd.let {h : H} {os : List (Int × Bool)} {ho : List Nat} (n : Nd h os ho) (hf : os.length < 12) (x : Int) (hx : 0 ≤ x) :
    ∃ h', ((h.grown [] x).setSl 1 ho.length ⟨(h.sl 1 ho.length).gen + 1, (os.length : Int) + 2, 1⟩).freed (1 + 4 * (ho.length : Int) + 256 * ((h.sl 1 ho.length).gen + 1)) = (fine, h') ∧ Nd h' (os ++ [(x, false)]) ho ∧ ∀ i, i < ho.length → h'.sl 1 i = h.sl 1 i := by
  have hh := n.hol
  have hlt : ho.length < ((h.grown [] x).t 1).length := by show ho.length < (h.t 1).length; rw [n.tl]; omega
  have hg := n.gens ho.length
  obtain ⟨h1, e1⟩ : ∃ h1, (h.grown [] x).setSl 1 ho.length ⟨(h.sl 1 ho.length).gen + 1, (os.length : Int) + 2, 1⟩ = h1 := ⟨_, rfl⟩
  have hsl : ∀ k i, h1.sl k i = if k = 1 ∧ i = ho.length then ⟨(h.sl 1 ho.length).gen + 1, (os.length : Int) + 2, 1⟩ else h.sl k i := fun k i => by rw [← e1]; exact sl_setSl (h.grown [] x) 1 ho.length k i _ hlt
  have ht1 : (h1.t 1).length = 16 := by rw [← e1, len_setSl]; exact n.tl
  obtain ⟨g, eg⟩ : ∃ g, (h.sl 1 ho.length).gen + 1 = g := ⟨_, rfl⟩
  rw [e1, eg]
  rw [eg] at hsl
  have a1 : (1 + 4 * (ho.length : Int) + 256 * g) % 4 = 1 := by omega
  have a2 : (1 + 4 * (ho.length : Int) + 256 * g) / 4 % 64 = (ho.length : Int) := by omega
  have a3 : (1 + 4 * (ho.length : Int) + 256 * g) / 256 = g := by omega
  have hs : h1.slot (1 + 4 * (ho.length : Int) + 256 * g) = (ho.length : Int) := by
    unfold H.slot
    rw [a1, a2, a3, if_neg (by rw [show (1 : Int).toNat = 1 from rfl, ht1]; omega), if_pos (by omega)]
  have hsk : h1.sl 1 ho.length = ⟨g, (os.length : Int) + 2, 1⟩ := by rw [hsl, if_pos ⟨rfl, rfl⟩]
  have hof : h1.of (1 + 4 * (ho.length : Int) + 256 * g) = ((os.length : Int) + 2, fine) := by
    unfold H.of
    rw [if_neg (by omega), hs, if_neg (by omega), a1, a3, show (1 : Int).toNat = 1 from rfl, Int.toNat_natCast, hsk, if_neg (by rintro (q | q); simp only at q; omega; exact q rfl)]
  have hfr : h1.freed (1 + 4 * (ho.length : Int) + 256 * g) = (fine, h1.setSl 1 ho.length ⟨g, 0, 1⟩) := by
    unfold H.freed
    rw [hof, if_neg (by simp [fine]), a1, a2, show (1 : Int).toNat = 1 from rfl, Int.toNat_natCast, hsk]
  have hs2 : ∀ k i, (h1.setSl 1 ho.length ⟨g, 0, 1⟩).sl k i = if k = 1 ∧ i = ho.length then ⟨g, 0, 1⟩ else h.sl k i := fun k i => by
    rw [sl_setSl h1 1 ho.length k i _ (by rw [ht1]; omega)]
    by_cases q : k = 1 ∧ i = ho.length
    · rw [if_pos q, if_pos q]
    · rw [if_neg q, if_neg q, hsl, if_neg q]
  refine ⟨_, hfr, ?_, fun i hi => by rw [hs2, if_neg (fun q => by omega)]⟩
  refine ⟨by rw [← e1]; exact n.room, ?_, by simp; omega, nn_snoc n.nn (x, false) hx, by rw [len_setSl]; exact ht1, by simp; omega, fun i hi => ?_, fun j hj => ?_, n.nodup, fun i hi => ?_, fun i => ?_, fun i => ?_, by rw [← e1]; exact n.ended, by rw [← e1]; exact n.frames, by rw [nheld_append, n.cnt]; simp [nheld]⟩
  · rw [← e1]
    show h.l ++ _ = _
    rw [n.l]; simp [nob]
  · rw [hs2, if_neg (fun q => by omega), show (os ++ [(x, false)]).length = os.length + 1 from by simp]
    have := n.held i hi
    exact ⟨this.1, by omega, this.2.2⟩
  · simp only [List.length_append, List.length_cons, List.length_nil] at hj
    by_cases e : j = os.length
    · subst e
      rw [List.getD_eq_getElem?_getD, List.getElem?_append_right (Nat.le_refl _)]
      refine ⟨fun q => by simp at q, fun q => ?_⟩
      obtain ⟨i, hi⟩ := List.getElem?_of_mem q
      have hil : i < ho.length := by
        rcases Nat.lt_or_ge i ho.length with q | q
        · exact q
        · rw [List.getElem?_eq_none q] at hi; cases hi
      have := (n.held i hil).2.1
      rw [List.getD_eq_getElem?_getD, hi] at this
      simp at this
    · rw [List.getD_eq_getElem?_getD, List.getElem?_append_left (by omega), ← List.getD_eq_getElem?_getD, n.who j (by omega)]
  · rw [hs2]
    split
    · rfl
    · exact n.empty i hi
  · rw [hs2, show (os ++ [(x, false)]).length = os.length + 1 from by simp]
    split
    · simp only; omega
    · have := n.gens i; omega
  · rw [hs2, if_neg (fun q => by omega)]; exact n.t2 i

theorem Nd.at0 {h : H} {os : List (Int × Bool)} {ho : List Nat} (n : Nd h os ho) : h.l.getD 0 ob0 = ⟨[1, 2, 2], [5, 0, 0], 0, -1, true⟩ := by rw [n.l]; rfl
theorem Nd.at {h : H} {os : List (Int × Bool)} {ho : List Nat} (n : Nd h os ho) (j : Nat) (hj : j < os.length) : h.l.getD (j + 1) ob0 = nob (os.getD j (0, false)) := by
  rw [n.l]
  simp [List.getD_eq_getElem?_getD, List.getElem?_eq_getElem hj]

theorem Nd.reach {h : H} {os : List (Int × Bool)} {ho : List Nat} (n : Nd h os ho) {m : Nat} (hr : Reach h m) : m = 0 ∨ ∃ j, j ∈ ho ∧ m = j + 2 := by
  refine hr.only (Q := fun m => m = 0 ∨ ∃ j, j ∈ ho ∧ m = j + 2) (fun m hm => ?_) (fun m q hm he => ?_)
  · rcases hm with ⟨t, i, ht, _, e⟩ | ⟨j, hj, _, hp, hg⟩
    · rcases ht with rfl | rfl
      · rcases Nat.lt_or_ge i ho.length with hi | hi
        · rw [(n.held i hi).1] at e
          exact Or.inr ⟨ho.getD i 0, getD_mem _ _ _ hi, by omega⟩
        · rw [n.empty i hi] at e; exact Or.inl (by omega)
      · rw [n.t2 i] at e; exact Or.inl (by omega)
    · cases j with
      | zero => rw [n.at0] at hg; cases hg
      | succ j =>
        have hl := n.len
        rw [n.at j (by omega)] at hp
        exact absurd hp (by show ¬ ((0 : Int) < 0); omega)
  · obtain ⟨j, x, hj, e, hx, hk, hv, h0⟩ := he
    cases j with
    | zero =>
      rcases hm with q | ⟨j', _, q⟩ <;> omega
    | succ j =>
      have hl := n.len
      rw [n.at j (by omega)] at hx
      simp [nob] at hx

theorem Nd.mark {h : H} {os : List (Int × Bool)} {ho : List Nat} (n : Nd h os ho) {M : List Bool} (m : Marked h M) (j : Nat) (hj : j < os.length) : M.getD (j + 2) false = (os.getD j (0, false)).2 := by
  have hl := n.len
  rw [Bool.eq_iff_iff, n.who j hj, m.2 (j + 2) (by rw [m.1]; omega)]
  constructor
  · intro r
    rcases n.reach r with q | ⟨j', q1, q2⟩
    · omega
    · obtain rfl : j' = j := by omega
      exact q1
  · intro q
    obtain ⟨i, hi⟩ := List.getElem?_of_mem q
    have hil : i < ho.length := by
      rcases Nat.lt_or_ge i ho.length with q | q
      · exact q
      · rw [List.getElem?_eq_none q] at hi; cases hi
    have h1 := (n.held i hil).1
    rw [List.getD_eq_getElem?_getD, hi] at h1
    simp only [Option.getD_some] at h1
    exact Reach.root (Or.inl ⟨1, i, Or.inl rfl, by rw [n.tl]; have := n.hol; have := n.few; omega, by rw [h1]; omega⟩)

/-- The names of those that are held, or not. -/
def namesB (b : Bool) : List (Int × Bool) → List Int
  | [] => []
  | x :: l => (if x.2 = b then [x.1] else []) ++ namesB b l
theorem namesB_snoc (b : Bool) (l : List (Int × Bool)) (x : Int × Bool) : namesB b (l ++ [x]) = namesB b l ++ (if x.2 = b then [x.1] else []) := by
  induction l with
  | nil => simp [namesB]
  | cons y l ih => simp only [List.cons_append, namesB, ih, List.append_assoc]

theorem Nd.names {h : H} {os : List (Int × Bool)} {ho : List Nat} (n : Nd h os ho) {M : List Bool} (m : Marked h M) (i : Nat) (hi : i ≤ os.length) : h.collNames M (i + 1) = namesB false (os.take i) := by
  induction i with
  | zero =>
    unfold H.collNames
    rw [if_neg (fun q => by have := q.1.2; rw [n.at0] at this; cases this)]
    simp [H.collNames, namesB]
  | succ i ih =>
    have hi' : i < os.length := by omega
    unfold H.collNames
    rw [ih (by omega), take_getD os (0, false) i hi', namesB_snoc, n.at i hi', n.mark m i hi']
    have hn := n.nn i hi'
    cases hb : (os.getD i (0, false)).2
    · rw [if_pos ⟨⟨rfl, rfl⟩, hn⟩, if_pos rfl]; rfl
    · rw [if_neg (fun q => by cases q.1.1), if_neg (by simp)]; simp

def nob2 (x : Int × Bool) : Ob := ⟨[], [], 0, x.1, !x.2⟩

/-- .. behind the first collection: the first f of the held ones are freed; en: the names that are to be told. -/
structure Ne (h : H) (os : List (Int × Bool)) (ho : List Nat) (f : Nat) (en : List Int) : Prop where
  l : h.l = ⟨[1, 2, 2], [5, 0, 0], 0, -1, true⟩ :: os.map nob2
  few : os.length ≤ 12
  nn : ∀ j, j < os.length → 0 ≤ (os.getD j (0, false)).1
  tl : (h.t 1).length = 16
  hol : ho.length ≤ os.length
  fl : f ≤ ho.length
  held : ∀ i, f ≤ i → i < ho.length → (h.sl 1 i).ob = (ho.getD i 0 : Int) + 2 ∧ 1 ≤ (h.sl 1 i).gen
  gone : ∀ i, i < f → (h.sl 1 i).ob = 0
  place : ∀ i, i < ho.length → ho.getD i 0 < os.length ∧ (os.getD (ho.getD i 0) (0, false)).2 = true
  empty : ∀ i, ho.length ≤ i → (h.sl 1 i).ob = 0
  gens : ∀ i, 0 ≤ (h.sl 1 i).gen ∧ (h.sl 1 i).gen ≤ 13
  t2 : ∀ i, (h.sl 2 i).ob = 0
  ended : h.ended = en
  cnt : nheld os = ho.length

theorem Nd.coll {h : H} {os : List (Int × Bool)} {ho : List Nat} (n : Nd h os ho) {M : List Bool} (m : Marked h M) : Ne (h.collTo M h.l.length) os ho 0 (namesB false os) := by
  obtain ⟨e1, _, _, _⟩ := collTo_same h M h.l.length
  have hl := collTo_len h M h.l.length
  have hln := n.len
  have hsl : ∀ k i, (h.collTo M h.l.length).sl k i = h.sl k i := fun k i => by unfold H.sl; rw [e1]
  refine ⟨?_, n.few, n.nn, by rw [e1]; exact n.tl, n.hol, Nat.zero_le _, fun i _ hi => by rw [hsl]; exact ⟨(n.held i hi).1, (n.held i hi).2.2⟩, fun i hi => absurd hi (Nat.not_lt_zero _), fun i hi => ⟨(n.held i hi).2.1, (n.who _ (n.held i hi).2.1).2 (getD_mem _ _ _ hi)⟩, fun i hi => by rw [hsl]; exact n.empty i hi, fun i => by rw [hsl]; have := n.gens i; have := n.few; omega, fun i => by rw [hsl]; exact n.t2 i, ?_, n.cnt⟩
  · apply List.ext_getElem?
    intro q
    rcases Nat.lt_or_ge q h.l.length with hq | hq
    · have h1 := at_coll h M q hq
      have hx : (h.collTo M h.l.length).l[q]? = some ((h.collTo M h.l.length).l.getD q ob0) := by
        rw [List.getD_eq_getElem?_getD, List.getElem?_eq_getElem (by rw [hl]; exact hq)]; rfl
      rw [hx, h1]
      cases q with
      | zero => rw [n.at0]; rfl
      | succ q =>
        have hq' : q < os.length := by omega
        rw [n.at q hq', n.mark m q hq']
        simp only [List.getElem?_cons_succ, List.getElem?_map, List.getElem?_eq_getElem hq', Option.map_some]
        simp [nob, nob2, List.getD_eq_getElem?_getD, List.getElem?_eq_getElem hq']
    · rw [List.getElem?_eq_none (by rw [hl]; exact hq), List.getElem?_eq_none (by simp; omega)]
  · rw [collTo_ended, n.ended, hln, n.names m os.length (Nat.le_refl _), List.take_length]; rfl

theorem Ne.len {h : H} {os : List (Int × Bool)} {ho : List Nat} {f : Nat} {en : List Int} (n : Ne h os ho f en) : h.l.length = os.length + 1 := by rw [n.l]; simp
theorem Ne.at0 {h : H} {os : List (Int × Bool)} {ho : List Nat} {f : Nat} {en : List Int} (n : Ne h os ho f en) : h.l.getD 0 ob0 = ⟨[1, 2, 2], [5, 0, 0], 0, -1, true⟩ := by rw [n.l]; rfl
theorem Ne.at {h : H} {os : List (Int × Bool)} {ho : List Nat} {f : Nat} {en : List Int} (n : Ne h os ho f en) (j : Nat) (hj : j < os.length) : h.l.getD (j + 1) ob0 = nob2 (os.getD j (0, false)) := by
  rw [n.l]
  simp [List.getD_eq_getElem?_getD, List.getElem?_eq_getElem hj]

/-- The names are told. -/
theorem Ne.told {h : H} {os : List (Int × Bool)} {ho : List Nat} {f : Nat} {en : List Int} (n : Ne h os ho f en) : Ne h.told os ho f [] :=
  ⟨n.l, n.few, n.nn, n.tl, n.hol, n.fl, n.held, n.gone, n.place, n.empty, n.gens, n.t2, rfl, n.cnt⟩

/-- A held one is freed. -/
theorem Ne.free {h : H} {os : List (Int × Bool)} {ho : List Nat} {f : Nat} {en : List Int} (n : Ne h os ho f en) (hf : f < ho.length) :
    ∃ h', h.freed (1 + 4 * (f : Int) + 256 * (h.sl 1 f).gen) = (fine, h') ∧ Ne h' os ho (f + 1) en ∧ ∀ i, f < i → h'.sl 1 i = h.sl 1 i := by
  have hh := n.hol
  have hw := n.few
  have hg := n.gens f
  have h1 := n.held f (Nat.le_refl _) hf
  obtain ⟨g, eg⟩ : ∃ g, (h.sl 1 f).gen = g := ⟨_, rfl⟩
  rw [eg] at hg h1
  rw [eg]
  have a1 : (1 + 4 * (f : Int) + 256 * g) % 4 = 1 := by omega
  have a2 : (1 + 4 * (f : Int) + 256 * g) / 4 % 64 = (f : Int) := by omega
  have a3 : (1 + 4 * (f : Int) + 256 * g) / 256 = g := by omega
  have hs : h.slot (1 + 4 * (f : Int) + 256 * g) = (f : Int) := by
    unfold H.slot
    rw [a1, a2, a3, if_neg (by rw [show (1 : Int).toNat = 1 from rfl, n.tl]; omega), if_pos (by omega)]
  have hof : h.of (1 + 4 * (f : Int) + 256 * g) = ((h.sl 1 f).ob, fine) := by
    unfold H.of
    rw [if_neg (by omega), hs, if_neg (by omega), a1, a3, show (1 : Int).toNat = 1 from rfl, Int.toNat_natCast, if_neg (by rintro (q | q); omega; exact q eg)]
  have hfr : h.freed (1 + 4 * (f : Int) + 256 * g) = (fine, h.setSl 1 f { h.sl 1 f with ob := 0 }) := by
    unfold H.freed
    rw [hof, if_neg (by simp [fine]), a1, a2, show (1 : Int).toNat = 1 from rfl, Int.toNat_natCast]
  have hs2 : ∀ k i, (h.setSl 1 f { h.sl 1 f with ob := 0 }).sl k i = if k = 1 ∧ i = f then { h.sl 1 f with ob := 0 } else h.sl k i := fun k i => sl_setSl h 1 f k i _ (by rw [n.tl]; omega)
  refine ⟨_, hfr, ⟨n.l, n.few, n.nn, by rw [len_setSl]; exact n.tl, n.hol, hf, fun i h2 h3 => ?_, fun i hi => ?_, n.place, fun i hi => ?_, fun i => ?_, fun i => ?_, n.ended, n.cnt⟩, fun i hi => ?_⟩
  · rw [hs2, if_neg (fun q => by omega)]; exact n.held i (by omega) h3
  · rw [hs2]
    split
    · rfl
    · rename_i q; exact n.gone i (by have : i ≠ f := fun e => q ⟨rfl, e⟩; omega)
  · rw [hs2, if_neg (fun q => by omega)]; exact n.empty i hi
  · rw [hs2]
    split
    · exact n.gens f
    · exact n.gens i
  · rw [hs2, if_neg (fun q => by omega)]; exact n.t2 i
  · rw [hs2, if_neg (fun q => by omega)]

theorem Ne.reach {h : H} {os : List (Int × Bool)} {ho : List Nat} {en : List Int} (n : Ne h os ho ho.length en) {m : Nat} (hr : Reach h m) : m = 0 := by
  refine hr.only (Q := fun m => m = 0) (fun m hm => ?_) (fun m q hm he => ?_)
  · rcases hm with ⟨t, i, ht, _, e⟩ | ⟨j, hj, _, hp, hg⟩
    · rcases ht with rfl | rfl
      · rcases Nat.lt_or_ge i ho.length with hi | hi
        · rw [n.gone i hi] at e; omega
        · rw [n.empty i hi] at e; omega
      · rw [n.t2 i] at e; omega
    · cases j with
      | zero => rw [n.at0] at hg; cases hg
      | succ j =>
        have hl := n.len
        rw [n.at j (by omega)] at hp
        exact absurd hp (by show ¬ ((0 : Int) < 0); omega)
  · obtain ⟨j, x, hj, e, _⟩ := he
    omega

/-- The last collection: all that were held end, and are told. -/
theorem Ne.coll {h : H} {os : List (Int × Bool)} {ho : List Nat} {en : List Int} (n : Ne h os ho ho.length en) {M : List Bool} (m : Marked h M) : h.collNum M h.l.length = (ho.length : Int) ∧ (h.collTo M h.l.length).ended = en ++ namesB true os := by
  have hln := n.len
  have hM : ∀ j, j < os.length → M.getD (j + 2) false = false := fun j hj => m.not (by rw [m.1]; omega) (fun r => by have := n.reach r; omega)
  have key : ∀ i, i ≤ os.length → h.collNum M (i + 1) = (nheld (os.take i) : Int) ∧ h.collNames M (i + 1) = namesB true (os.take i) := fun i => by
    induction i with
    | zero =>
      intro _
      unfold H.collNum H.collNames
      have h0 : ¬ (h.l.getD 0 ob0).gone = false := by rw [n.at0]; simp
      rw [if_neg (fun q => h0 q.2), if_neg (fun q => h0 q.1.2)]
      simp [H.collNum, H.collNames, nheld, namesB]
    | succ i ih =>
      intro hi
      have hi' : i < os.length := by omega
      obtain ⟨ih1, ih2⟩ := ih (by omega)
      have hn := n.nn i hi'
      unfold H.collNum H.collNames
      rw [ih1, ih2, take_getD os (0, false) i hi', namesB_snoc, nheld_append, n.at i hi', hM i hi']
      cases hb : (os.getD i (0, false)).2
      · have hg : ¬ (nob2 (os.getD i (0, false))).gone = false := by simp only [nob2]; rw [hb]; simp
        rw [if_neg (fun q => hg q.2), if_neg (fun q => hg q.1.2)]
        simp only [nheld, hb]
        simp
      · have hg : (nob2 (os.getD i (0, false))).gone = false := by simp only [nob2]; rw [hb]; rfl
        rw [if_pos ⟨rfl, hg⟩, if_pos ⟨⟨rfl, hg⟩, hn⟩]
        simp only [nheld, hb, if_true]
        refine ⟨by omega, rfl⟩
  obtain ⟨k1, k2⟩ := key os.length (Nat.le_refl _)
  rw [List.take_length] at k1 k2
  rw [collTo_ended, hln, k1, k2, n.ended, n.cnt]
  exact ⟨rfl, rfl⟩
end Tm
end Go.Proofs.YtcnmfljpmpgnjaaGreatDoor

namespace Go.Proofs.YtcnmfljpmpgnjaaGreatDoor
open Go.RowKit
open Tm (H Ob Sl Why)

/-- A list of a law's, in memory. -/
structure RowL where
  p : Option Addr
  c : Nat
  l : List Int
/-- Its blocks. -/
def ownL (L : List RowL) (b : Nat) : Prop := ∃ x, x ∈ L ∧ ∃ a, x.p = some a ∧ a.block = b
/-- The lists of a law, each in a block of its own. -/
structure Lists (B : Nat) (w : World) (L : List RowL) : Prop where
  row : ∀ x, x ∈ L → IRow B w x.p x.c x.l
  apart : L.Pairwise fun x y => ∀ a b, x.p = some a → y.p = some b → a.block ≠ b.block

theorem Lists.kept {B : Nat} {w w' : World} {L : List RowL} (s : Lists B w L) (h : ∀ b, ownL L b → w'.heap[b]? = w.heap[b]?) : Lists B w' L :=
  ⟨fun x hx => (s.row x hx).block (fun a ha => h a.block ⟨x, hx, a, ha, rfl⟩), s.apart⟩
theorem Lists.lt {B : Nat} {w : World} {L : List RowL} (s : Lists B w L) {b : Nat} (h : ownL L b) : B ≤ b ∧ b < w.heap.size := by
  obtain ⟨x, hx, a, ha, rfl⟩ := h
  exact (s.row x hx).lt ha

/-- What is known behind an append to one of them, w1 being the world ahead of it. -/
structure AppL (w1 w' : World) (p : Option Addr) (n c : Nat) (p' : Option Addr) : Prop where
  gr : w1.grownBy w' (Value.slice p n c).ownBlock
  loc : ∀ a', p' = some a' → (∃ b, p = some b ∧ b.block = a'.block) ∨ a'.block = w1.heap.size

theorem AppL.off {w1 w' : World} {p : Option Addr} {n c : Nat} {p' : Option Addr} (h : AppL w1 w' p n c p') (b : Nat) (hb : b < w1.heap.size) (hn : ∀ a, p = some a → a.block ≠ b) : w'.heap[b]? = w1.heap[b]? :=
  h.gr.block b hb (fun e => by
    obtain ⟨a, q1, q2⟩ := IRow.own e.symm
    exact hn a q1 q2)

theorem Lists.app {B : Nat} {w w1 w' : World} {L1 L2 : List RowL} {x : RowL} (s : Lists B w (L1 ++ x :: L2)) (hb1 : Below w.heap.size w w1) {n : Nat} {p' : Option Addr} {c' : Nat} {l' : List Int} (hr : IRow B w' p' c' l') (ap : AppL w1 w' x.p n x.c p') : Lists B w' (L1 ++ ⟨p', c', l'⟩ :: L2) := by
  have hP := s.apart
  rw [List.pairwise_append, List.pairwise_cons] at hP
  obtain ⟨q1, ⟨q2, q3⟩, q4⟩ := hP
  have hold : ∀ y, (y ∈ L1 ∨ y ∈ L2) → ∀ a b, y.p = some a → x.p = some b → a.block ≠ b.block := fun y hy a b ha hb => by
    rcases hy with hy | hy
    · exact q4 y hy x (by simp) a b ha hb
    · exact fun e => q2 y hy b a hb ha e.symm
  have hin : ∀ y, (y ∈ L1 ∨ y ∈ L2) → y ∈ L1 ++ x :: L2 := fun y hy => by
    rcases hy with hy | hy
    · exact List.mem_append_left _ hy
    · exact List.mem_append_right _ (List.mem_cons_of_mem _ hy)
  have hlt : ∀ y, (y ∈ L1 ∨ y ∈ L2) → ∀ a, y.p = some a → a.block < w.heap.size := fun y hy a ha => ((s.row y (hin y hy)).lt ha).2
  have hnew : ∀ y, (y ∈ L1 ∨ y ∈ L2) → ∀ a b, y.p = some a → p' = some b → a.block ≠ b.block := fun y hy a b ha hb e => by
    rcases ap.loc b hb with ⟨d, q5, q6⟩ | q5
    · exact hold y hy a d ha q5 (e.trans q6.symm)
    · have := hlt y hy a ha; have := hb1.size; omega
  refine ⟨fun y hy => ?_, ?_⟩
  · have hoth : ∀ y, (y ∈ L1 ∨ y ∈ L2) → IRow B w' y.p y.c y.l := fun y hy => (s.row y (hin y hy)).block (fun a ha => by
      have h1 := hlt y hy a ha
      rw [ap.off a.block (Nat.lt_of_lt_of_le h1 hb1.size) (fun b hb e => hold y hy a b ha hb e.symm)]
      exact hb1.block _ h1)
    rcases List.mem_append.1 hy with hy | hy
    · exact hoth y (Or.inl hy)
    · rcases List.mem_cons.1 hy with rfl | hy
      · exact hr
      · exact hoth y (Or.inr hy)
  · rw [List.pairwise_append, List.pairwise_cons]
    refine ⟨q1, ⟨fun y hy a b ha hb e => hnew y (Or.inr hy) b a hb ha e.symm, q3⟩, fun y hy z hz => ?_⟩
    rcases List.mem_cons.1 hz with rfl | hz
    · exact fun a b ha hb => hnew y (Or.inl hy) a b ha hb
    · exact q4 y hy z (List.mem_cons_of_mem _ hz)

section
variable {R : (Nat → Prop) → World → Nat → H → Prop} {N : Nat} {A : Nat → Addr} {B : Nat} {w0 w w' : World} {p : Nat} {h : H}

/-- The law's own lists turn: the heap stays. -/
theorem Hp.turn (ok : ROK R) {T T' : Nat → Prop} (x : Hp R N A B w0 T w p h) (hB : B ≤ w.heap.size) (hb : Below B w w') (hold : ∀ b, b < w.heap.size → ¬ T b → w'.heap[b]? = w.heap[b]?) (hT : ∀ b, T' b → T b ∨ w.heap.size ≤ b) (hlt : ∀ b, T' b → b < w'.heap.size) : Hp R N A B w0 T' w' p h := by
  obtain ⟨S, hr, hS⟩ := x.at'
  have hl := ok.lt _ _ _ _ hr
  refine ⟨⟨S, ok.same _ _ _ _ _ hr (fun b hs => hold b (hl b hs) (hS b hs).2) hb.size, fun b hs => ⟨(hS b hs).1, fun t => ?_⟩⟩, x.errs.below hb x.le, x.le, x.below.trans hb, hlt, fun b t => ?_⟩
  · rcases hT b t with q | q
    · exact (hS b hs).2 q
    · have := hl b hs; omega
  · rcases hT b t with q | q
    · exact x.tb b q
    · omega

theorem Hp.app (ok : ROK R) {w1 : World} {L1 L2 : List RowL} {x : RowL} (y : Hp R N A B w0 (ownL (L1 ++ x :: L2)) w p h) (hB : B ≤ w.heap.size) (s : Lists B w (L1 ++ x :: L2)) (hb1 : Below w.heap.size w w1) {n : Nat} {p' : Option Addr} {c' : Nat} {l' : List Int} (hr : IRow B w' p' c' l') (ap : AppL w1 w' x.p n x.c p') :
    Hp R N A B w0 (ownL (L1 ++ ⟨p', c', l'⟩ :: L2)) w' p h ∧ Lists B w' (L1 ++ ⟨p', c', l'⟩ :: L2) := by
  have s' := s.app hb1 hr ap
  have hx : ∀ a, x.p = some a → ownL (L1 ++ x :: L2) a.block := fun a ha => ⟨x, by simp, a, ha, rfl⟩
  refine ⟨y.turn ok hB ⟨ap.gr.os.trans hb1.os, ap.gr.tape.trans hb1.tape, ap.gr.output.trans hb1.output, Nat.le_trans hb1.size ap.gr.size, fun b hb => ?_⟩ (fun b hb hn => ?_) (fun b hb => ?_) (fun b hb => (s'.lt hb).2), s'⟩
  · rw [ap.off b (by have := hb1.size; omega) (fun a ha e => by have := (s.lt (hx a ha)).1; omega)]
    exact hb1.block b (by omega)
  · rw [ap.off b (by have := hb1.size; omega) (fun a ha e => hn (e ▸ hx a ha))]
    exact hb1.block b hb
  · obtain ⟨z, hz, a, ha, rfl⟩ := hb
    rcases List.mem_append.1 hz with hz | hz
    · exact Or.inl ⟨z, List.mem_append_left _ hz, a, ha, rfl⟩
    · rcases List.mem_cons.1 hz with rfl | hz
      · rcases ap.loc a ha with ⟨d, q1, q2⟩ | q
        · exact Or.inl (q2 ▸ hx d q1)
        · exact Or.inr (by have := hb1.size; omega)
      · exact Or.inl ⟨z, List.mem_append_right _ (List.mem_cons_of_mem _ hz), a, ha, rfl⟩

/-- A list that can be read. -/
def Seen (w : World) (q : Option Addr) (l : List Int) : Prop := 0 < l.length → ∃ g, q = some ⟨g, 0, none⟩ ∧ g < w.heap.size ∧ ∀ i, i < l.length → w.cell? ⟨g, i, none⟩ = some (.int .i64 (l.getD i 0))
theorem IRow.seen {q : Option Addr} {c : Nat} {l : List Int} (h : IRow B w q c l) : Seen w q l := fun h0 => by
  obtain ⟨g, e, _, h1, _, h2, _⟩ := h.at (Or.inl h0)
  exact ⟨g, e, h1, h2⟩
theorem Seen.kept {q : Option Addr} {l : List Int} (h : Seen w q l) (hs : 0 < l.length → ∀ g, q = some ⟨g, 0, none⟩ → g < w.heap.size → w'.heap[g]? = w.heap[g]?) (hz : w.heap.size ≤ w'.heap.size) : Seen w' q l := fun h0 => by
  obtain ⟨g, e, h1, h2⟩ := h h0
  exact ⟨g, e, by omega, fun i hi => by rw [cell_of (hs h0 g e h1)]; exact h2 i hi⟩

/-- Ended, of a heap that a law has made: the answer is the law's own. -/
def EP (R : (Nat → Prop) → World → Nat → H → Prop) (N : Nat) (A : Nat → Addr) (B : Nat) (w0 : World) (T : Nat → Prop) (w : World) (p : Nat) (l : List Int) (h' : H) (e : Ending) (w' : World) : Prop :=
  ∃ q c, e = .returned (.slice q l.length c) ∧ Seen w' q l ∧ ((∀ a, q = some a → 0 < l.length → B ≤ a.block ∧ ¬ T a.block) ∧ Hp R N A B w0 (fun b => T b ∨ (0 < l.length ∧ ∃ a, q = some a ∧ a.block = b)) w' p h') ∧ w.heap.size ≤ w'.heap.size ∧ ∀ b, T b → w'.heap[b]? = w.heap[b]?
theorem Hp.ended {T : Nat → Prop} (K : ProgOK R N A) (x : Hp R N A B w0 T w p h) (hB : B ≤ w.heap.size) (ht : h.toldOK) :
    Calls Tryz.prog 32 #[.pointer (some ⟨p, 0, none⟩)] w (EP R N A B w0 T w p h.ended h.told) := by
  obtain ⟨S, hr, hS⟩ := x.at'
  refine (K.ended S w p h hr x.errs (fun b hb => Nat.le_trans x.le (hS b hb).1) ht).mono ?_
  rintro e w' ⟨q, c, b, S', rfl, ha, hb, hc, hr', hk, hn⟩
  obtain ⟨y1, y2, y3⟩ := x.next hS hB hr' hk hn
  have hpos : 0 < h.ended.length → q = some ⟨b, 0, none⟩ ∧ b < w'.heap.size ∧ ¬ S' b ∧ B ≤ b ∧ ¬ T b := fun h0 => by
    have hc0 : 0 < c := Nat.lt_of_lt_of_le h0 ha.cap
    have h1 := hb hc0
    refine ⟨(ha.one hc0).1, ha.lt hc0, h1.1, ?_, fun t => ?_⟩
    · rcases h1.2 with q | q
      · exact (hS b q).1
      · omega
    · rcases h1.2 with q | q
      · exact (hS b q).2 t
      · have := x.lt b t; omega
  refine ⟨q, c, rfl, fun h0 => ⟨b, (hpos h0).1, (hpos h0).2.1, hc⟩, ⟨fun a e h0 => ?_, ?_⟩, y2, y3⟩
  · obtain ⟨e1, _, _, e2, e3⟩ := hpos h0
    rw [e1] at e; cases e
    exact ⟨e2, e3⟩
  · refine ⟨⟨S', hr', fun b' hb' => ⟨?_, ?_⟩⟩, y1.errs, y1.le, y1.below, ?_, ?_⟩
    · rcases hn b' hb' with q | q
      · exact (hS b' q).1
      · omega
    · rintro (t | ⟨h0, a, e, rfl⟩)
      · rcases hn b' hb' with q | q
        · exact (hS b' q).2 t
        · have := x.lt b' t; omega
      · obtain ⟨e1, _, e2, _⟩ := hpos h0
        rw [e1] at e; cases e
        exact e2 hb'
    · rintro b' (t | ⟨h0, a, e, rfl⟩)
      · exact y1.lt b' t
      · obtain ⟨e1, e2, _⟩ := hpos h0
        rw [e1] at e; cases e
        exact e2
    · rintro b' (t | ⟨h0, a, e, rfl⟩)
      · exact y1.tb b' t
      · obtain ⟨e1, _, _, e2, _⟩ := hpos h0
        rw [e1] at e; cases e
        exact e2
end

set_option maxRecDepth 100000 in
set_option maxHeartbeats 2000000 in
theorem alike_same (w : World) (p q : Option Addr) (c d : Nat) (l : List Int) (hl : l.length < 4398046511104) (h1 : Seen w p l) (h2 : Seen w q l) :
    Calls Tryz.prog 33 #[.slice p l.length c, .slice q l.length d] w fun e w' => e = .returned (.bool true) ∧ Below w.heap.size w w' ∧ w'.heap = w.heap := by
  have H1 := hide h1
  have H2 := hide h2
  clear h1 h2
  go_enter Tryz.func33, Tryz.ntmps33
  go_wp2_with fail
  go_loopw [5] (fun iv w' => ∃ i : Nat, i ≤ l.length ∧ iv = .int .i64 i ∧ Below w.heap.size w w' ∧ w'.heap = w.heap) (fun iv _ => l.length - (intOf iv).toNat)
  case atStart => exact ⟨0, by omega, rfl, Below.refl _ _, rfl⟩
  case round =>
    obtain ⟨i, hi, rfl, hb, hh⟩ := hrel
    have HB := hide hb
    have HH := hide hh
    clear hb hh
    by_cases hlt : i < l.length
    · have bi : (i : Int) < (l.length : Int) := by omega
      obtain ⟨g1, rfl, _, k1⟩ := H1.out (by omega)
      obtain ⟨g2, rfl, _, k2⟩ := H2.out (by omega)
      have c1 : wr.cell? ⟨g1, i, none⟩ = some (.int .i64 (l.getD i 0)) := by rw [cell_of (w := w) (by rw [HH.out])]; exact k1 i hlt
      have c2 : wr.cell? ⟨g2, i, none⟩ = some (.int .i64 (l.getD i 0)) := by rw [cell_of (w := w) (by rw [HH.out])]; exact k2 i hlt
      clear k1 k2 H1 H2
      generalize l.getD i 0 = y at *
      go_wp2_with (go_quiet (fail))
      exact ⟨⟨i + 1, by omega, by go_num, below_dN HB.out _, HH.out⟩, by simp [intOf]; omega⟩
    · have bi : ¬ (i : Int) < (l.length : Int) := by omega
      go_wp2_with fail
      go_ret
      exact ⟨rfl, HB.out, HH.out⟩
end Go.Proofs.YtcnmfljpmpgnjaaGreatDoor
