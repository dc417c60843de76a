import Derived.Test.YtcnmfljpmpgnjaaGreatDoorK31
import Derived.Test.YtcnmfljpmpgnjaaGreatDoorK32
import Derived.Test.YtcnmfljpmpgnjaaGreatDoorK07
namespace Go.Proofs.YtcnmfljpmpgnjaaGreatDoor
open Go.RowKit
open Tm (H Ob Sl Why)

set_option maxRecDepth 100000 in
set_option maxHeartbeats 4000000 in
theorem asked_Collect (w : World) (wb pa ra : Nat) (xA xB xD xE c0 c1 c2 c3 : Int) (cp : Option Addr) (cn cc : Nat) (n : Int) (Q1 Q2 : World → Prop)
    (h1 : Calls Tryz.prog 20 #[.pointer (some ⟨pa, 0, none⟩)] (askW w pa ra 12 xA xB xD xE c0 c1 c2 c3 cp cn cc) fun e w' => e = .returned (.int .i64 n) ∧ Q1 w' ∧ BoxSame2 (askW w pa ra 12 xA xB xD xE c0 c1 c2 c3 cp cn cc) w' w.heap.size)
    (h2 : ∀ w2, Q1 w2 → Calls Tryz.prog 109 #[.pointer (some ⟨ra, 0, none⟩)] w2 fun e w' => e = .returned (.int .i64 n) ∧ Q2 w') :
    Calls Tryz.prog 81 #[.pointer (some ⟨wb, 0, none⟩), .agg #[.pointer (some ⟨pa, 0, none⟩), .pointer (some ⟨ra, 0, none⟩)], .agg #[.int .i64 12, .int .i64 xA, .int .i64 xB, .int .i64 xD, .int .i64 xE, .int .i64 c0, .int .i64 c1, .int .i64 c2, .int .i64 c3, .slice cp cn cc]] w fun e w' => e = .returned (.bool true) ∧ Q2 w' := by
  have H1 := hide h1
  have H2 := hide h2
  clear h1 h2
  go_enter Tryz.func81, Tryz.ntmps81
  go_wp2_with fail
  refine H1.out.mono ?_
  rintro e w2 ⟨rfl, hq1, hbx⟩
  obtain ⟨p1, _, _, _⟩ := ask_box hbx
  have hz2 := hbx.1
  rw [askW_size] at hz2
  have H2' := hide (H2.out w2 hq1)
  have hlt : w.heap.size < w2.heap.size := by omega
  clear hq1 H2 H1 hbx
  go_wp2_with fail
  refine (H2'.out).mono ?_
  rintro e w3 ⟨rfl, hq2⟩
  have HQ2 := hide hq2
  clear hq2 H2'
  go_wp2_with fail
  go_ret
  exact ⟨rfl, HQ2.out⟩

set_option maxRecDepth 100000 in
set_option maxHeartbeats 4000000 in
theorem asked_Same (N : Nat) (A : Nat → Addr) (w : World) (wb pa ra : Nat) (xA xB xD xE c0 c1 c2 c3 : Int) (cp : Option Addr) (cn cc : Nat) (Q1 : Bool → Value → World → Prop) (Q2 : Bool → Value → Bool → Why → World → Prop)
    (h1 : Calls Tryz.prog 40 #[.pointer (some ⟨pa, 0, none⟩), .int .i64 xB, .int .i64 xD] (askW w pa ra 8 xA xB xD xE c0 c1 c2 c3 cp cn cc) fun e w' => ∃ b ev, e = .returned (.tuple #[.bool b, ev]) ∧ Q1 b ev w' ∧ BoxSame2 (askW w pa ra 8 xA xB xD xE c0 c1 c2 c3 cp cn cc) w' w.heap.size)
    (h2 : ∀ b ev w2, Q1 b ev w2 → Calls Tryz.prog 107 #[.pointer (some ⟨ra, 0, none⟩), .int .i64 xB, .int .i64 xD] w2 fun e w' => ∃ c y, e = .returned (.tuple #[.bool c, whyV y]) ∧ Q2 b ev c y w')
    (h3 : ∀ b ev c y w3, Q2 b ev c y w3 → b = c ∧ ∀ w', Below w3.heap.size w3 w' → Errs N A w' ∧ ErrIs A w' ev y) :
    Calls Tryz.prog 81 #[.pointer (some ⟨wb, 0, none⟩), .agg #[.pointer (some ⟨pa, 0, none⟩), .pointer (some ⟨ra, 0, none⟩)], .agg #[.int .i64 8, .int .i64 xA, .int .i64 xB, .int .i64 xD, .int .i64 xE, .int .i64 c0, .int .i64 c1, .int .i64 c2, .int .i64 c3, .slice cp cn cc]] w fun e w' => e = .returned (.bool true) ∧ ∃ b ev c y w3, Q2 b ev c y w3 ∧ Below w3.heap.size w3 w' := by
  have H1 := hide h1
  have H2 := hide h2
  have H3 := hide h3
  clear h1 h2 h3
  go_enter Tryz.func81, Tryz.ntmps81
  go_wp2_with fail
  refine H1.out.mono ?_
  rintro e w2 ⟨b, ev, rfl, hq1, hbx⟩
  obtain ⟨p1, p2, p3, p4⟩ := ask_box hbx
  have hz2 := hbx.1
  rw [askW_size] at hz2
  have H2' := hide (H2.out b ev w2 hq1)
  have hlt : w.heap.size < w2.heap.size := by omega
  clear hq1 H2 H1 hbx
  go_wp2_with fail
  refine (H2'.out).mono ?_
  rintro e w3 ⟨c, y, rfl, hq2⟩
  obtain ⟨hbc, hE⟩ := H3.out b ev c y w3 hq2
  subst hbc
  have HQ2 := hide hq2
  have HI := fun o => hide (is_any N A (w3.alloc o) (hE _ (Below.alloc0 _ o)).1 ev y (hE _ (Below.alloc0 _ o)).2)
  clear hq2 H2' H3 hE
  simp only [whyV]
  go_wp2_with fail
  refine ((HI _).out).mono ?_
  rintro e w4 ⟨rfl, hb4⟩
  have HB4 : Hid (Below w3.heap.size w3 w4) := (Below.alloc0 _ _).trans (hb4.mono (by simp))
  clear hb4
  go_wp2_with fail
  go_ret
  exact ⟨rfl, b, ev, b, y, w3, HQ2.out, HB4.out⟩
end Go.Proofs.YtcnmfljpmpgnjaaGreatDoor

namespace Go.Proofs.YtcnmfljpmpgnjaaGreatDoor
open Go.RowKit
open Tm (H Ob Sl Why)

/-- What a call of the document's that answers a number leaves. -/
def RPost (S : Nat → Prop) (w : World) (a : Nat) (n : Int) (y : Why) (h' : H) (e : Ending) (w' : World) : Prop :=
  e = .returned (.tuple #[.int .i64 n, whyV y]) ∧ ∃ S' tag' Y', Rep S' tag' w' a Y' h' ∧ Kept S w w' ∧ ∀ b, S' b → S b ∨ w.heap.size ≤ b

/-- Two heaps that are alike: the program's at p, the document's at q. -/
structure Pair (R : (Nat → Prop) → World → Nat → H → Prop) (N : Nat) (Sp Sr : Nat → Prop) (w : World) (p q : Nat) (h : H) : Prop where
  prog : R Sp w p h
  ref : ∃ tag Y, Rep Sr tag w q Y h
  dj : ∀ b, Sp b → ¬ Sr b
  lp : ∀ b, Sp b → N ≤ b ∧ b < w.heap.size
  lr : ∀ b, Sr b → N ≤ b ∧ b < w.heap.size

/-- What is asked of how a heap of the program's lies. -/
structure ROK (R : (Nat → Prop) → World → Nat → H → Prop) : Prop where
  same : ∀ S w w' p h, R S w p h → Same S w w' → w.heap.size ≤ w'.heap.size → R S w' p h
  lt : ∀ S w p h, R S w p h → ∀ x, S x → x < w.heap.size

/-- What a step on a pair leaves. -/
def One (R : (Nat → Prop) → World → Nat → H → Prop) (N : Nat) (Sp Sr : Nat → Prop) (w : World) (p q : Nat) (h' : H) (w' : World) : Prop :=
  ∃ Sp' Sr', Pair R N Sp' Sr' w' p q h' ∧ Kept (fun b => Sp b ∨ Sr b) w w' ∧ (∀ b, Sp' b → Sp b ∨ w.heap.size ≤ b) ∧ ∀ b, Sr' b → Sr b ∨ w.heap.size ≤ b

section
variable {R : (Nat → Prop) → World → Nat → H → Prop} {N : Nat} {A : Nat → Addr} {Sp Sr : Nat → Prop} {w W : World} {p q : Nat} {h h' : H}

theorem Pair.below (P : Pair R N Sp Sr w p q h) (ok : ROK R) (hb : Below w.heap.size w W) : Pair R N Sp Sr W p q h := by
  obtain ⟨tag, Y, r⟩ := P.ref
  exact ⟨ok.same _ _ _ _ _ P.prog (fun b hs => hb.block b (P.lp b hs).2) hb.size, ⟨tag, Y, r.below hb (Nat.le_refl _)⟩, P.dj, fun b hs => ⟨(P.lp b hs).1, Nat.lt_of_lt_of_le (P.lp b hs).2 hb.size⟩, fun b hs => ⟨(P.lr b hs).1, Nat.lt_of_lt_of_le (P.lr b hs).2 hb.size⟩⟩

/-- Blocks outside of both have turned. -/
theorem Pair.off (P : Pair R N Sp Sr w p q h) (ok : ROK R) {T : Nat → Prop} (hk : Kept T w W) (hT : ∀ b, T b → ¬ Sp b ∧ ¬ Sr b) : Pair R N Sp Sr W p q h := by
  obtain ⟨tag, Y, r⟩ := P.ref
  exact ⟨ok.same _ _ _ _ _ P.prog (fun b hs => hk.block b (P.lp b hs).2 (fun t => (hT b t).1 hs)) hk.size, ⟨tag, Y, r.same (fun b hs => hk.block b (P.lr b hs).2 (fun t => (hT b t).2 hs)) hk.size⟩, P.dj, fun b hs => ⟨(P.lp b hs).1, Nat.lt_of_lt_of_le (P.lp b hs).2 hk.size⟩, fun b hs => ⟨(P.lr b hs).1, Nat.lt_of_lt_of_le (P.lr b hs).2 hk.size⟩⟩

theorem Errs.off' {S : Nat → Prop} (hE : Errs N A w) (hk : Kept S w W) (hS : ∀ b, S b → N ≤ b) : Errs N A W :=
  hE.below (B := N) ⟨hk.os, hk.tape, hk.output, hk.size, fun k hk' => hk.block k (Nat.lt_of_lt_of_le hk' hE.le) (fun h => by have := hS k h; omega)⟩ (Nat.le_refl _)

/-- Behind the program's call. -/
def PQ1 (R : (Nat → Prop) → World → Nat → H → Prop) (A : Nat → Addr) (Sp : Nat → Prop) (W : World) (p : Nat) (n : Int) (y : Why) (h' : H) (n' : Int) (ev : Value) (w2 : World) : Prop :=
  n' = n ∧ ErrIn A W.heap.size w2 ev y ∧ ∃ Sp', R Sp' w2 p h' ∧ Kept Sp W w2 ∧ ∀ b, Sp' b → Sp b ∨ W.heap.size ≤ b
/-- Behind both. -/
def PQ2 (R : (Nat → Prop) → World → Nat → H → Prop) (N : Nat) (A : Nat → Addr) (Sp Sr : Nat → Prop) (W : World) (p q : Nat) (n : Int) (y : Why) (h' : H) (n' : Int) (ev : Value) (m : Int) (y' : Why) (w3 : World) : Prop :=
  n' = n ∧ m = n ∧ y' = y ∧ Errs N A w3 ∧ ErrIs A w3 ev y ∧ (∀ b, ev = .iface 101 (.pointer (some ⟨b, 0, none⟩)) → W.heap.size ≤ b) ∧ One R N Sp Sr W p q h' w3

theorem ErrIs.off {S : Nat → Prop} {ev : Value} {y : Why} {w' : World} (he : ErrIs A w ev y) (hk : Kept S w w') (hS : ∀ b, ev = .iface 101 (.pointer (some ⟨b, 0, none⟩)) → ¬ S b) : ErrIs A w' ev y := by
  rcases he with h | ⟨n, fb, h1, h2, h3, rfl, h5, h6, h7⟩
  · exact Or.inl h
  · have e := hk.block fb h5 (hS fb rfl)
    exact Or.inr ⟨n, fb, h1, h2, h3, rfl, Nat.lt_of_lt_of_le h5 hk.size, by rw [cell_of e]; exact h6, by rw [cell_of e]; exact h7⟩

/-- The program's call, as 'handed' wants it. -/
theorem pair_h1 {f : FuncId} {args : Array Value} (P : Pair R N Sp Sr w p q h) (k : Nat) (hk : w.heap.size ≤ k) (hk3 : k + 3 ≤ W.heap.size) {n : Int} {y : Why}
    (hp : Calls Tryz.prog f args W (HPostR R Sp W p A n y h')) :
    Calls Tryz.prog f args W fun e w' => ∃ n' ev, e = .returned (.tuple #[.int .i64 n', ev]) ∧ PQ1 R A Sp W p n y h' n' ev w' ∧ BoxSame W w' k := by
  refine hp.mono ?_
  rintro e w' ⟨ev, S', rfl, he, hr, hkp, _, hnew⟩
  exact ⟨n, ev, rfl, ⟨rfl, he, S', hr, hkp, hnew⟩, hkp.size, fun x h1 h2 => hkp.block x (by omega) (fun hs => by have := (P.lp x hs).2; omega)⟩

/-- The document's, behind it. -/
theorem pair_h2 {f : FuncId} {args : Array Value} (ok : ROK R) (P : Pair R N Sp Sr w p q h) (hE : Errs N A w) (hb : Below w.heap.size w W) (k : Nat) (hk : w.heap.size ≤ k) (hk3 : k + 3 ≤ W.heap.size) {n : Int} {y : Why} {n' : Int} {ev : Value} {w2 : World}
    (hq : PQ1 R A Sp W p n y h' n' ev w2) (hr : ∀ tag Y, Rep Sr tag w2 q Y h → Calls Tryz.prog f args w2 (RPost Sr w2 q n y h')) :
    Calls Tryz.prog f args w2 fun e w' => ∃ m y', e = .returned (.tuple #[.int .i64 m, whyV y']) ∧ PQ2 R N A Sp Sr W p q n y h' n' ev m y' w' ∧ BoxSame w2 w' k := by
  obtain ⟨e1, he, Sp', hR, hkp, hnew⟩ := hq
  have PW := P.below ok hb
  obtain ⟨tag, Y, r⟩ := PW.ref
  have r2 : Rep Sr tag w2 q Y h := r.same (fun b hs => hkp.block b (PW.lr b hs).2 (fun h => PW.dj b h hs)) hkp.size
  have hlt := ok.lt _ _ _ _ hR
  have hz := hkp.size
  refine (hr tag Y r2).mono ?_
  rintro e w3 ⟨rfl, Sr', tag', Y', r3, hk3', hnew3⟩
  have hz3 := hk3'.size
  have hsr : ∀ b, Sr b → b < w.heap.size := fun b hs => (P.lr b hs).2
  have hbz := hb.size
  have hE2 : Errs N A w2 := (hE.below hb hE.le).off' hkp (fun b hs => (P.lp b hs).1)
  have hE3 : Errs N A w3 := hE2.off' hk3' (fun b hs => (P.lr b hs).1)
  have dj' : ∀ b, Sp' b → ¬ Sr' b := fun b h1 h2 => by
    have hb1 := hlt b h1
    rcases hnew3 b h2 with q2 | q2
    · rcases hnew b h1 with q1 | q1
      · exact P.dj b q1 q2
      · have := hsr b q2; omega
    · omega
  have sameP : R Sp' w3 p h' := ok.same _ _ _ _ _ hR (fun b hs => hk3'.block b (hlt b hs) (fun hs2 => by
    rcases hnew b hs with q1 | q1
    · exact P.dj b q1 hs2
    · have := hsr b hs2; omega)) hz3
  have herr : ErrIs A w3 ev y := he.1.off hk3' (fun b eb hs => by have := he.2 b eb; have := hsr b hs; omega)
  refine ⟨n, y, rfl, ⟨e1, rfl, rfl, hE3, herr, fun b eb => he.2 b eb, Sp', Sr', ⟨sameP, ⟨tag', Y', r3⟩, dj', fun b hs => ⟨?_, Nat.lt_of_lt_of_le (hlt b hs) hz3⟩, fun b hs => ⟨?_, r3.lt b hs⟩⟩, ?_, hnew, fun b hs => ?_⟩, hz3, fun x h1 h2 => hk3'.block x (by omega) (fun hs => by have := hsr x hs; omega)⟩
  · rcases hnew b hs with q1 | q1
    · exact (P.lp b q1).1
    · have := hE.le; omega
  · rcases hnew3 b hs with q1 | q1
    · exact (P.lr b q1).1
    · have := hE.le; omega
  · exact ⟨hk3'.os.trans hkp.os, hk3'.tape.trans hkp.tape, hk3'.output.trans hkp.output, Nat.le_trans hz hz3, fun i hi hn => (hk3'.block i (by omega) (fun hs => hn (Or.inr hs))).trans (hkp.block i hi (fun hs => hn (Or.inl hs)))⟩
  · rcases hnew3 b hs with q1 | q1
    · exact Or.inl q1
    · exact Or.inr (by omega)

/-- .. and at the end. -/
theorem One.fin {w3 w' : World} (ok : ROK R) (P : Pair R N Sp Sr w p q h) (hb : Below w.heap.size w W) (o : One R N Sp Sr W p q h' w3) (T : Nat → Prop) (hT : ∀ b, T b → w.heap.size ≤ b ∧ b < W.heap.size) (hk : Kept T w3 w') : One R N Sp Sr w p q h' w' := by
  obtain ⟨Sp', Sr', P3, k3, n1, n2⟩ := o
  have hz := hb.size
  have hz3 := k3.size
  refine ⟨Sp', Sr', P3.off ok hk (fun b hb' => ?_), ⟨hk.os.trans (k3.os.trans hb.os), hk.tape.trans (k3.tape.trans hb.tape), hk.output.trans (k3.output.trans hb.output), Nat.le_trans hz (Nat.le_trans hz3 hk.size), fun i hi hn => ?_⟩, fun b hs => ?_, fun b hs => ?_⟩
  · have := hT b hb'
    refine ⟨fun hs => ?_, fun hs => ?_⟩
    · rcases n1 b hs with q1 | q1
      · have := (P.lp b q1).2; omega
      · omega
    · rcases n2 b hs with q1 | q1
      · have := (P.lr b q1).2; omega
      · omega
  · rw [hk.block i (by omega) (fun ht => by have := hT i ht; omega), k3.block i (by omega) hn, hb.block i hi]
  · rcases n1 b hs with q1 | q1
    · exact Or.inl q1
    · exact Or.inr (by omega)
  · rcases n2 b hs with q1 | q1
    · exact Or.inl q1
    · exact Or.inr (by omega)
end
end Go.Proofs.YtcnmfljpmpgnjaaGreatDoor
