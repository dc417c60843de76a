import Derived.Test.YtcnmfljpmpgnjaaGreatDoorK33
namespace Go.Proofs.YtcnmfljpmpgnjaaGreatDoor
open Go.RowKit
open Tm (H Ob Sl Why)

theorem handW_below (w : World) (pa ra : Nat) (kind xA xB xD xE c0 c1 c2 c3 : Int) (cp : Option Addr) (cn cc : Nat) : Below w.heap.size w (handW w pa ra kind xA xB xD xE c0 c1 c2 c3 cp cn cc) :=
  (Below.alloc0 w _).trans (((Below.refl _ _).alloc (by simp) _).trans ((Below.refl _ _).alloc (by simp; omega) _))
theorem hand2_below (w : World) (pa ra : Nat) (kind xA xB xD xE c0 c1 c2 c3 : Int) (cp : Option Addr) (cn cc : Nat) : Below w.heap.size w (handW (askW w pa ra kind xA xB xD xE c0 c1 c2 c3 cp cn cc) pa ra kind xA xB xD xE c0 c1 c2 c3 cp cn cc) :=
  (askW_below w pa ra kind xA xB xD xE c0 c1 c2 c3 cp cn cc).trans ((handW_below _ pa ra kind xA xB xD xE c0 c1 c2 c3 cp cn cc).mono (by rw [askW_size]; omega))
theorem hand2_size (w : World) (pa ra : Nat) (kind xA xB xD xE c0 c1 c2 c3 : Int) (cp : Option Addr) (cn cc : Nat) : (handW (askW w pa ra kind xA xB xD xE c0 c1 c2 c3 cp cn cc) pa ra kind xA xB xD xE c0 c1 c2 c3 cp cn cc).heap.size = w.heap.size + 5 := by rw [handW_size, askW_size]
theorem ask2_below (w : World) (pa ra : Nat) (kind xA xB xD xE c0 c1 c2 c3 : Int) (cp : Option Addr) (cn cc : Nat) : Below w.heap.size w (askW (askW w pa ra kind xA xB xD xE c0 c1 c2 c3 cp cn cc) pa ra kind xA xB xD xE c0 c1 c2 c3 cp cn cc) :=
  (askW_below w pa ra kind xA xB xD xE c0 c1 c2 c3 cp cn cc).trans ((askW_below _ pa ra kind xA xB xD xE c0 c1 c2 c3 cp cn cc).mono (by rw [askW_size]; omega))
theorem ask2_size (w : World) (pa ra : Nat) (kind xA xB xD xE c0 c1 c2 c3 : Int) (cp : Option Addr) (cn cc : Nat) : (askW (askW w pa ra kind xA xB xD xE c0 c1 c2 c3 cp cn cc) pa ra kind xA xB xD xE c0 c1 c2 c3 cp cn cc).heap.size = w.heap.size + 4 := by rw [askW_size, askW_size]

/-- What a call of the document's that answers a reason alone leaves. -/
def RDPost (S : Nat → Prop) (w : World) (a : Nat) (y : Why) (h' : H) (e : Ending) (w' : World) : Prop := e = .returned (whyV y) ∧ ∃ tag Y, Rep S tag w' a Y h' ∧ Kept S w w'

section
variable {R : (Nat → Prop) → World → Nat → H → Prop} {N : Nat} {A : Nat → Addr} {Sp Sr : Nat → Prop} {w W : World} {p q : Nat} {h h' : H}

theorem PQ2.fin {n n' m : Int} {y y' : Why} {ev : Value} {w3 : World} (hE : Errs N A w) (hz : W.heap.size = w.heap.size + 5) (hq : PQ2 R N A Sp Sr W p q n y h' n' ev m y' w3) :
    n' = m ∧ ∀ w', Kept (fun x => x = w.heap.size + 1 + 1 + 1 + 1) w3 w' → Errs N A w' ∧ ErrIs A w' ev y' := by
  obtain ⟨rfl, rfl, rfl, hE3, herr, hfb, one⟩ := hq
  refine ⟨rfl, fun w' hk => ⟨hE3.off' hk (fun b e => ?_), herr.off hk (fun b eb e => ?_)⟩⟩
  · have := hE.le; subst e; omega
  · have := hfb b eb; subst e; omega

/-- Behind the program's call that answers an error alone; behind both. -/
def PD1 (R : (Nat → Prop) → World → Nat → H → Prop) (A : Nat → Addr) (Sp : Nat → Prop) (W : World) (p : Nat) (y : Why) (h' : H) (ev : Value) (w2 : World) : Prop := ErrIn A W.heap.size w2 ev y ∧ ∃ Sp', R Sp' w2 p h' ∧ Kept Sp W w2 ∧ ∀ b, Sp' b → Sp b ∨ W.heap.size ≤ b
def PD2 (R : (Nat → Prop) → World → Nat → H → Prop) (N : Nat) (A : Nat → Addr) (Sp Sr : Nat → Prop) (W : World) (p q : Nat) (y : Why) (h' : H) (ev : Value) (y' : Why) (w3 : World) : Prop := y' = y ∧ Errs N A w3 ∧ ErrIs A w3 ev y ∧ One R N Sp Sr W p q h' w3

theorem pair_d1 {f : FuncId} {args : Array Value} (P : Pair R N Sp Sr w p q h) (k : Nat) (hk : w.heap.size ≤ k) (hk3 : k + 2 ≤ W.heap.size) {y : Why} (hp : Calls Tryz.prog f args W (DPostR R Sp W p A y h')) :
    Calls Tryz.prog f args W fun e w' => ∃ ev, e = .returned ev ∧ PD1 R A Sp W p y h' ev w' ∧ BoxSame2 W w' k := by
  refine hp.mono ?_
  rintro e w' ⟨ev, S', rfl, he, hr, hkp, hn⟩
  exact ⟨ev, rfl, ⟨he, S', hr, hkp, hn⟩, hkp.size, fun x h1 h2 => hkp.block x (by omega) (fun hs => by have := (P.lp x hs).2; omega)⟩

theorem pair_d2 {f : FuncId} {args : Array Value} (ok : ROK R) (P : Pair R N Sp Sr w p q h) (hE : Errs N A w) (hb : Below w.heap.size w W) {y : Why} {ev : Value} {w2 : World} (hq : PD1 R A Sp W p y h' ev w2) (hr : ∀ tag Y, Rep Sr tag w2 q Y h → Calls Tryz.prog f args w2 (RDPost Sr w2 q y h')) :
    Calls Tryz.prog f args w2 fun e w' => ∃ y', e = .returned (whyV y') ∧ PD2 R N A Sp Sr W p q y h' ev y' w' := by
  obtain ⟨he, Sp', hR, hkp, hnew⟩ := hq
  have PW := P.below ok hb
  obtain ⟨tag, Y, r⟩ := PW.ref
  have r2 : Rep Sr tag w2 q Y h := r.same (fun b hs => hkp.block b (PW.lr b hs).2 (fun h => PW.dj b h hs)) hkp.size
  have hz := hkp.size
  refine (hr tag Y r2).mono ?_
  rintro e w3 ⟨rfl, tag', Y', r3, hk3'⟩
  have hz3 := hk3'.size
  have hsr : ∀ b, Sr b → b < w.heap.size := fun b hs => (P.lr b hs).2
  have hbz := hb.size
  have hE2 : Errs N A w2 := (hE.below hb hE.le).off' hkp (fun b hs => (P.lp b hs).1)
  have hE3 : Errs N A w3 := hE2.off' hk3' (fun b hs => (P.lr b hs).1)
  have hlt := ok.lt _ _ _ _ hR
  have dj' : ∀ b, Sp' b → ¬ Sr b := fun b h1 h2 => by
    rcases hnew b h1 with q1 | q1
    · exact P.dj b q1 h2
    · have := hsr b h2; omega
  refine ⟨y, rfl, rfl, hE3, he.1.off hk3' (fun b eb hs => by have := he.2 b eb; have := hsr b hs; omega), Sp', Sr, ⟨ok.same _ _ _ _ _ hR (fun b hs => hk3'.block b (hlt b hs) (dj' b hs)) hz3, ⟨tag', Y', r3⟩, dj', fun b hs => ⟨?_, Nat.lt_of_lt_of_le (hlt b hs) hz3⟩, fun b hs => ⟨(P.lr b hs).1, r3.lt b hs⟩⟩, ?_, hnew, fun b hs => Or.inl hs⟩
  · rcases hnew b hs with q1 | q1
    · exact (P.lp b q1).1
    · have := hE.le; omega
  exact ⟨hk3'.os.trans hkp.os, hk3'.tape.trans hkp.tape, hk3'.output.trans hkp.output, Nat.le_trans hz hz3, fun i hi hn => (hk3'.block i (by omega) (fun hs => hn (Or.inr hs))).trans (hkp.block i hi (fun hs => hn (Or.inl hs)))⟩

theorem pair_Make (ok : ROK R) (P : Pair R N Sp Sr w p q h) (hE : Errs N A w) (wb : Nat) (xA xB xD xE c0 c1 c2 c3 : Int) (cp : Option Addr) (cn cc : Nat) {n : Int} {y : Why}
    (hp : ∀ W, Below w.heap.size w W → Calls Tryz.prog 25 #[.pointer (some ⟨p, 0, none⟩), .int .i64 xB] W (HPostR R Sp W p A n y h'))
    (hr : ∀ w2 tag Y, Rep Sr tag w2 q Y h → Calls Tryz.prog 146 #[.pointer (some ⟨q, 0, none⟩), .int .i64 xB] w2 (RPost Sr w2 q n y h')) :
    Calls Tryz.prog 81 #[.pointer (some ⟨wb, 0, none⟩), .agg #[.pointer (some ⟨p, 0, none⟩), .pointer (some ⟨q, 0, none⟩)], .agg #[.int .i64 2, .int .i64 xA, .int .i64 xB, .int .i64 xD, .int .i64 xE, .int .i64 c0, .int .i64 c1, .int .i64 c2, .int .i64 c3, .slice cp cn cc]] w fun e w' => e = .returned (.bool true) ∧ One R N Sp Sr w p q h' w' := by
  have hbW := hand2_below w p q 2 xA xB xD xE c0 c1 c2 c3 cp cn cc
  have hzW := hand2_size w p q 2 xA xB xD xE c0 c1 c2 c3 cp cn cc
  have hza := askW_size w p q 2 xA xB xD xE c0 c1 c2 c3 cp cn cc
  refine (asked_Make N A w wb p q xA xB xD xE c0 c1 c2 c3 cp cn cc (PQ2 R N A Sp Sr _ p q n y h') (handed_Make _ p q xA xB xD xE c0 c1 c2 c3 cp cn cc (PQ1 R A Sp _ p n y h') _ (pair_h1 P _ (by rw [hza]; omega) (by rw [hza, hzW]; omega) (hp _ hbW)) (fun n' ev w2 hq _ => pair_h2 ok P hE hbW _ (by rw [hza]; omega) (by rw [hza, hzW]; omega) hq (hr w2))) (fun n' ev m y' w3 hq => PQ2.fin hE hzW hq)).mono ?_
  rintro e w' ⟨rfl, w3, ⟨n', ev, m, y', hq⟩, hk⟩
  exact ⟨rfl, One.fin ok P hbW hq.2.2.2.2.2.2 _ (fun b e => by subst e; rw [hzW]; omega) hk⟩

theorem pair_Array (ok : ROK R) (P : Pair R N Sp Sr w p q h) (hE : Errs N A w) (wb : Nat) (xA xB xD xE c0 c1 c2 c3 : Int) (cp : Option Addr) (cn cc : Nat) {n : Int} {y : Why}
    (hp : ∀ W, Below w.heap.size w W → Calls Tryz.prog 147 #[.pointer (some ⟨p, 0, none⟩), .int .i64 xB, .int .i64 xD] W (HPostR R Sp W p A n y h'))
    (hr : ∀ w2 tag Y, Rep Sr tag w2 q Y h → Calls Tryz.prog 148 #[.pointer (some ⟨q, 0, none⟩), .int .i64 xB, .int .i64 xD] w2 (RPost Sr w2 q n y h')) :
    Calls Tryz.prog 81 #[.pointer (some ⟨wb, 0, none⟩), .agg #[.pointer (some ⟨p, 0, none⟩), .pointer (some ⟨q, 0, none⟩)], .agg #[.int .i64 3, .int .i64 xA, .int .i64 xB, .int .i64 xD, .int .i64 xE, .int .i64 c0, .int .i64 c1, .int .i64 c2, .int .i64 c3, .slice cp cn cc]] w fun e w' => e = .returned (.bool true) ∧ One R N Sp Sr w p q h' w' := by
  have hbW := hand2_below w p q 3 xA xB xD xE c0 c1 c2 c3 cp cn cc
  have hzW := hand2_size w p q 3 xA xB xD xE c0 c1 c2 c3 cp cn cc
  have hza := askW_size w p q 3 xA xB xD xE c0 c1 c2 c3 cp cn cc
  refine (asked_Array N A w wb p q xA xB xD xE c0 c1 c2 c3 cp cn cc (PQ2 R N A Sp Sr _ p q n y h') (handed_Array _ p q xA xB xD xE c0 c1 c2 c3 cp cn cc (PQ1 R A Sp _ p n y h') _ (pair_h1 P _ (by rw [hza]; omega) (by rw [hza, hzW]; omega) (hp _ hbW)) (fun n' ev w2 hq _ => pair_h2 ok P hE hbW _ (by rw [hza]; omega) (by rw [hza, hzW]; omega) hq (hr w2))) (fun n' ev m y' w3 hq => PQ2.fin hE hzW hq)).mono ?_
  rintro e w' ⟨rfl, w3, ⟨n', ev, m, y', hq⟩, hk⟩
  exact ⟨rfl, One.fin ok P hbW hq.2.2.2.2.2.2 _ (fun b e => by subst e; rw [hzW]; omega) hk⟩

theorem pair_Extern (ok : ROK R) (P : Pair R N Sp Sr w p q h) (hE : Errs N A w) (wb : Nat) (xA xB xD xE c0 c1 c2 c3 : Int) (cp : Option Addr) (cn cc : Nat) {n : Int} {y : Why}
    (hp : ∀ W, Below w.heap.size w W → Calls Tryz.prog 31 #[.pointer (some ⟨p, 0, none⟩), .int .i64 xB] W (HPostR R Sp W p A n y h'))
    (hr : ∀ w2 tag Y, Rep Sr tag w2 q Y h → Calls Tryz.prog 149 #[.pointer (some ⟨q, 0, none⟩), .int .i64 xB] w2 (RPost Sr w2 q n y h')) :
    Calls Tryz.prog 81 #[.pointer (some ⟨wb, 0, none⟩), .agg #[.pointer (some ⟨p, 0, none⟩), .pointer (some ⟨q, 0, none⟩)], .agg #[.int .i64 13, .int .i64 xA, .int .i64 xB, .int .i64 xD, .int .i64 xE, .int .i64 c0, .int .i64 c1, .int .i64 c2, .int .i64 c3, .slice cp cn cc]] w fun e w' => e = .returned (.bool true) ∧ One R N Sp Sr w p q h' w' := by
  have hbW := hand2_below w p q 13 xA xB xD xE c0 c1 c2 c3 cp cn cc
  have hzW := hand2_size w p q 13 xA xB xD xE c0 c1 c2 c3 cp cn cc
  have hza := askW_size w p q 13 xA xB xD xE c0 c1 c2 c3 cp cn cc
  refine (asked_Extern N A w wb p q xA xB xD xE c0 c1 c2 c3 cp cn cc (PQ2 R N A Sp Sr _ p q n y h') (handed_Extern _ p q xA xB xD xE c0 c1 c2 c3 cp cn cc (PQ1 R A Sp _ p n y h') _ (pair_h1 P _ (by rw [hza]; omega) (by rw [hza, hzW]; omega) (hp _ hbW)) (fun n' ev w2 hq _ => pair_h2 ok P hE hbW _ (by rw [hza]; omega) (by rw [hza, hzW]; omega) hq (hr w2))) (fun n' ev m y' w3 hq => PQ2.fin hE hzW hq)).mono ?_
  rintro e w' ⟨rfl, w3, ⟨n', ev, m, y', hq⟩, hk⟩
  exact ⟨rfl, One.fin ok P hbW hq.2.2.2.2.2.2 _ (fun b e => by subst e; rw [hzW]; omega) hk⟩

theorem pair_Get (ok : ROK R) (P : Pair R N Sp Sr w p q h) (hE : Errs N A w) (wb : Nat) (xA xB xD xE c0 c1 c2 c3 : Int) (cp : Option Addr) (cn cc : Nat) {n : Int} {y : Why}
    (hp : ∀ W, Below w.heap.size w W → Calls Tryz.prog 41 #[.pointer (some ⟨p, 0, none⟩), .int .i64 xB, .int .i64 xD] W (HPostR R Sp W p A n y h'))
    (hr : ∀ w2 tag Y, Rep Sr tag w2 q Y h → Calls Tryz.prog 150 #[.pointer (some ⟨q, 0, none⟩), .int .i64 xB, .int .i64 xD] w2 (RPost Sr w2 q n y h')) :
    Calls Tryz.prog 81 #[.pointer (some ⟨wb, 0, none⟩), .agg #[.pointer (some ⟨p, 0, none⟩), .pointer (some ⟨q, 0, none⟩)], .agg #[.int .i64 4, .int .i64 xA, .int .i64 xB, .int .i64 xD, .int .i64 xE, .int .i64 c0, .int .i64 c1, .int .i64 c2, .int .i64 c3, .slice cp cn cc]] w fun e w' => e = .returned (.bool true) ∧ One R N Sp Sr w p q h' w' := by
  have hbW := hand2_below w p q 4 xA xB xD xE c0 c1 c2 c3 cp cn cc
  have hzW := hand2_size w p q 4 xA xB xD xE c0 c1 c2 c3 cp cn cc
  have hza := askW_size w p q 4 xA xB xD xE c0 c1 c2 c3 cp cn cc
  refine (asked_Get N A w wb p q xA xB xD xE c0 c1 c2 c3 cp cn cc (PQ2 R N A Sp Sr _ p q n y h') (handed_Get _ p q xA xB xD xE c0 c1 c2 c3 cp cn cc (PQ1 R A Sp _ p n y h') _ (pair_h1 P _ (by rw [hza]; omega) (by rw [hza, hzW]; omega) (hp _ hbW)) (fun n' ev w2 hq _ => pair_h2 ok P hE hbW _ (by rw [hza]; omega) (by rw [hza, hzW]; omega) hq (hr w2))) (fun n' ev m y' w3 hq => PQ2.fin hE hzW hq)).mono ?_
  rintro e w' ⟨rfl, w3, ⟨n', ev, m, y', hq⟩, hk⟩
  exact ⟨rfl, One.fin ok P hbW hq.2.2.2.2.2.2 _ (fun b e => by subst e; rw [hzW]; omega) hk⟩

theorem pair_Follow (ok : ROK R) (P : Pair R N Sp Sr w p q h) (hE : Errs N A w) (wb : Nat) (xA xB xD xE c0 c1 c2 c3 : Int) (cp : Option Addr) (cn cc : Nat) {n : Int} {y : Why}
    (hp : ∀ W, Below w.heap.size w W → Calls Tryz.prog 42 #[.pointer (some ⟨p, 0, none⟩), .int .i64 xB, .int .i64 xD] W (HPostR R Sp W p A n y h'))
    (hr : ∀ w2 tag Y, Rep Sr tag w2 q Y h → Calls Tryz.prog 151 #[.pointer (some ⟨q, 0, none⟩), .int .i64 xB, .int .i64 xD] w2 (RPost Sr w2 q n y h')) :
    Calls Tryz.prog 81 #[.pointer (some ⟨wb, 0, none⟩), .agg #[.pointer (some ⟨p, 0, none⟩), .pointer (some ⟨q, 0, none⟩)], .agg #[.int .i64 6, .int .i64 xA, .int .i64 xB, .int .i64 xD, .int .i64 xE, .int .i64 c0, .int .i64 c1, .int .i64 c2, .int .i64 c3, .slice cp cn cc]] w fun e w' => e = .returned (.bool true) ∧ One R N Sp Sr w p q h' w' := by
  have hbW := hand2_below w p q 6 xA xB xD xE c0 c1 c2 c3 cp cn cc
  have hzW := hand2_size w p q 6 xA xB xD xE c0 c1 c2 c3 cp cn cc
  have hza := askW_size w p q 6 xA xB xD xE c0 c1 c2 c3 cp cn cc
  refine (asked_Follow N A w wb p q xA xB xD xE c0 c1 c2 c3 cp cn cc (PQ2 R N A Sp Sr _ p q n y h') (handed_Follow _ p q xA xB xD xE c0 c1 c2 c3 cp cn cc (PQ1 R A Sp _ p n y h') _ (pair_h1 P _ (by rw [hza]; omega) (by rw [hza, hzW]; omega) (hp _ hbW)) (fun n' ev w2 hq _ => pair_h2 ok P hE hbW _ (by rw [hza]; omega) (by rw [hza, hzW]; omega) hq (hr w2))) (fun n' ev m y' w3 hq => PQ2.fin hE hzW hq)).mono ?_
  rintro e w' ⟨rfl, w3, ⟨n', ev, m, y', hq⟩, hk⟩
  exact ⟨rfl, One.fin ok P hbW hq.2.2.2.2.2.2 _ (fun b e => by subst e; rw [hzW]; omega) hk⟩

theorem pair_Ref (ok : ROK R) (P : Pair R N Sp Sr w p q h) (hE : Errs N A w) (wb : Nat) (xA xB xD xE c0 c1 c2 c3 : Int) (cp : Option Addr) (cn cc : Nat) {n : Int} {y : Why}
    (hp : ∀ W, Below w.heap.size w W → Calls Tryz.prog 17 #[.pointer (some ⟨p, 0, none⟩), .int .i64 xB, .int .i64 xD] W (HPostR R Sp W p A n y h'))
    (hr : ∀ w2 tag Y, Rep Sr tag w2 q Y h → Calls Tryz.prog 152 #[.pointer (some ⟨q, 0, none⟩), .int .i64 xB, .int .i64 xD] w2 (RPost Sr w2 q n y h')) :
    Calls Tryz.prog 81 #[.pointer (some ⟨wb, 0, none⟩), .agg #[.pointer (some ⟨p, 0, none⟩), .pointer (some ⟨q, 0, none⟩)], .agg #[.int .i64 9, .int .i64 xA, .int .i64 xB, .int .i64 xD, .int .i64 xE, .int .i64 c0, .int .i64 c1, .int .i64 c2, .int .i64 c3, .slice cp cn cc]] w fun e w' => e = .returned (.bool true) ∧ One R N Sp Sr w p q h' w' := by
  have hbW := hand2_below w p q 9 xA xB xD xE c0 c1 c2 c3 cp cn cc
  have hzW := hand2_size w p q 9 xA xB xD xE c0 c1 c2 c3 cp cn cc
  have hza := askW_size w p q 9 xA xB xD xE c0 c1 c2 c3 cp cn cc
  refine (asked_Ref N A w wb p q xA xB xD xE c0 c1 c2 c3 cp cn cc (PQ2 R N A Sp Sr _ p q n y h') (handed_Ref _ p q xA xB xD xE c0 c1 c2 c3 cp cn cc (PQ1 R A Sp _ p n y h') _ (pair_h1 P _ (by rw [hza]; omega) (by rw [hza, hzW]; omega) (hp _ hbW)) (fun n' ev w2 hq _ => pair_h2 ok P hE hbW _ (by rw [hza]; omega) (by rw [hza, hzW]; omega) hq (hr w2))) (fun n' ev m y' w3 hq => PQ2.fin hE hzW hq)).mono ?_
  rintro e w' ⟨rfl, w3, ⟨n', ev, m, y', hq⟩, hk⟩
  exact ⟨rfl, One.fin ok P hbW hq.2.2.2.2.2.2 _ (fun b e => by subst e; rw [hzW]; omega) hk⟩

theorem pair_Pop (ok : ROK R) (P : Pair R N Sp Sr w p q h) (hE : Errs N A w) (wb : Nat) (xA xB xD xE c0 c1 c2 c3 : Int) (cp : Option Addr) (cn cc : Nat) {n : Int} {y : Why}
    (hp : ∀ W, Below w.heap.size w W → Calls Tryz.prog 39 #[.pointer (some ⟨p, 0, none⟩), .int .i64 xB] W (HPostR R Sp W p A n y h'))
    (hr : ∀ w2 tag Y, Rep Sr tag w2 q Y h → Calls Tryz.prog 153 #[.pointer (some ⟨q, 0, none⟩), .int .i64 xB] w2 (RPost Sr w2 q n y h')) :
    Calls Tryz.prog 81 #[.pointer (some ⟨wb, 0, none⟩), .agg #[.pointer (some ⟨p, 0, none⟩), .pointer (some ⟨q, 0, none⟩)], .agg #[.int .i64 16, .int .i64 xA, .int .i64 xB, .int .i64 xD, .int .i64 xE, .int .i64 c0, .int .i64 c1, .int .i64 c2, .int .i64 c3, .slice cp cn cc]] w fun e w' => e = .returned (.bool true) ∧ One R N Sp Sr w p q h' w' := by
  have hbW := hand2_below w p q 16 xA xB xD xE c0 c1 c2 c3 cp cn cc
  have hzW := hand2_size w p q 16 xA xB xD xE c0 c1 c2 c3 cp cn cc
  have hza := askW_size w p q 16 xA xB xD xE c0 c1 c2 c3 cp cn cc
  refine (asked_Pop N A w wb p q xA xB xD xE c0 c1 c2 c3 cp cn cc (PQ2 R N A Sp Sr _ p q n y h') (handed_Pop _ p q xA xB xD xE c0 c1 c2 c3 cp cn cc (PQ1 R A Sp _ p n y h') _ (pair_h1 P _ (by rw [hza]; omega) (by rw [hza, hzW]; omega) (hp _ hbW)) (fun n' ev w2 hq _ => pair_h2 ok P hE hbW _ (by rw [hza]; omega) (by rw [hza, hzW]; omega) hq (hr w2))) (fun n' ev m y' w3 hq => PQ2.fin hE hzW hq)).mono ?_
  rintro e w' ⟨rfl, w3, ⟨n', ev, m, y', hq⟩, hk⟩
  exact ⟨rfl, One.fin ok P hbW hq.2.2.2.2.2.2 _ (fun b e => by subst e; rw [hzW]; omega) hk⟩

theorem pair_Set (ok : ROK R) (P : Pair R N Sp Sr w p q h) (hE : Errs N A w) (wb : Nat) (xA xB xD xE c0 c1 c2 c3 : Int) (cp : Option Addr) (cn cc : Nat) {y : Why}
    (hp : ∀ W, Below w.heap.size w W → Calls Tryz.prog 36 #[.pointer (some ⟨p, 0, none⟩), .int .i64 xB, .int .i64 xD, .int .i64 xE] W (DPostR R Sp W p A y h'))
    (hr : ∀ w2 tag Y, Rep Sr tag w2 q Y h → Calls Tryz.prog 140 #[.pointer (some ⟨q, 0, none⟩), .int .i64 xB, .int .i64 xD, .int .i64 xE] w2 (RDPost Sr w2 q y h')) :
    Calls Tryz.prog 81 #[.pointer (some ⟨wb, 0, none⟩), .agg #[.pointer (some ⟨p, 0, none⟩), .pointer (some ⟨q, 0, none⟩)], .agg #[.int .i64 5, .int .i64 xA, .int .i64 xB, .int .i64 xD, .int .i64 xE, .int .i64 c0, .int .i64 c1, .int .i64 c2, .int .i64 c3, .slice cp cn cc]] w fun e w' => e = .returned (.bool true) ∧ One R N Sp Sr w p q h' w' := by
  have hbW := ask2_below w p q 5 xA xB xD xE c0 c1 c2 c3 cp cn cc
  have hzW := ask2_size w p q 5 xA xB xD xE c0 c1 c2 c3 cp cn cc
  have hza := askW_size w p q 5 xA xB xD xE c0 c1 c2 c3 cp cn cc
  refine (asked_Set w wb p q xA xB xD xE c0 c1 c2 c3 cp cn cc (PD2 R N A Sp Sr _ p q y h') (done_Set N A _ p q xA xB xD xE c0 c1 c2 c3 cp cn cc (PD1 R A Sp _ p y h') _ (pair_d1 P _ (by rw [hza]; omega) (by rw [hza, hzW]; omega) (hp _ hbW)) (fun ev w2 hq _ => pair_d2 ok P hE hbW hq (hr w2)) (fun ev y' w3 hq w' hb => ⟨hq.2.1.below hb hq.2.1.le, by rw [hq.1]; exact hq.2.2.1.below hb⟩))).mono ?_
  rintro e w' ⟨rfl, ev, y', w3, hq, hb⟩
  exact ⟨rfl, One.fin ok P hbW hq.2.2.2 (fun _ => False) (fun _ h => h.elim) (Kept.of_below hb)⟩

theorem pair_Point (ok : ROK R) (P : Pair R N Sp Sr w p q h) (hE : Errs N A w) (wb : Nat) (xA xB xD xE c0 c1 c2 c3 : Int) (cp : Option Addr) (cn cc : Nat) {y : Why}
    (hp : ∀ W, Below w.heap.size w W → Calls Tryz.prog 43 #[.pointer (some ⟨p, 0, none⟩), .int .i64 xB, .int .i64 xD, .int .i64 xE] W (DPostR R Sp W p A y h'))
    (hr : ∀ w2 tag Y, Rep Sr tag w2 q Y h → Calls Tryz.prog 141 #[.pointer (some ⟨q, 0, none⟩), .int .i64 xB, .int .i64 xD, .int .i64 xE] w2 (RDPost Sr w2 q y h')) :
    Calls Tryz.prog 81 #[.pointer (some ⟨wb, 0, none⟩), .agg #[.pointer (some ⟨p, 0, none⟩), .pointer (some ⟨q, 0, none⟩)], .agg #[.int .i64 7, .int .i64 xA, .int .i64 xB, .int .i64 xD, .int .i64 xE, .int .i64 c0, .int .i64 c1, .int .i64 c2, .int .i64 c3, .slice cp cn cc]] w fun e w' => e = .returned (.bool true) ∧ One R N Sp Sr w p q h' w' := by
  have hbW := ask2_below w p q 7 xA xB xD xE c0 c1 c2 c3 cp cn cc
  have hzW := ask2_size w p q 7 xA xB xD xE c0 c1 c2 c3 cp cn cc
  have hza := askW_size w p q 7 xA xB xD xE c0 c1 c2 c3 cp cn cc
  refine (asked_Point w wb p q xA xB xD xE c0 c1 c2 c3 cp cn cc (PD2 R N A Sp Sr _ p q y h') (done_Point N A _ p q xA xB xD xE c0 c1 c2 c3 cp cn cc (PD1 R A Sp _ p y h') _ (pair_d1 P _ (by rw [hza]; omega) (by rw [hza, hzW]; omega) (hp _ hbW)) (fun ev w2 hq _ => pair_d2 ok P hE hbW hq (hr w2)) (fun ev y' w3 hq w' hb => ⟨hq.2.1.below hb hq.2.1.le, by rw [hq.1]; exact hq.2.2.1.below hb⟩))).mono ?_
  rintro e w' ⟨rfl, ev, y', w3, hq, hb⟩
  exact ⟨rfl, One.fin ok P hbW hq.2.2.2 (fun _ => False) (fun _ h => h.elim) (Kept.of_below hb)⟩

theorem pair_Free (ok : ROK R) (P : Pair R N Sp Sr w p q h) (hE : Errs N A w) (wb : Nat) (xA xB xD xE c0 c1 c2 c3 : Int) (cp : Option Addr) (cn cc : Nat) {y : Why}
    (hp : ∀ W, Below w.heap.size w W → Calls Tryz.prog 23 #[.pointer (some ⟨p, 0, none⟩), .int .i64 xB] W (DPostR R Sp W p A y h'))
    (hr : ∀ w2 tag Y, Rep Sr tag w2 q Y h → Calls Tryz.prog 142 #[.pointer (some ⟨q, 0, none⟩), .int .i64 xB] w2 (RDPost Sr w2 q y h')) :
    Calls Tryz.prog 81 #[.pointer (some ⟨wb, 0, none⟩), .agg #[.pointer (some ⟨p, 0, none⟩), .pointer (some ⟨q, 0, none⟩)], .agg #[.int .i64 10, .int .i64 xA, .int .i64 xB, .int .i64 xD, .int .i64 xE, .int .i64 c0, .int .i64 c1, .int .i64 c2, .int .i64 c3, .slice cp cn cc]] w fun e w' => e = .returned (.bool true) ∧ One R N Sp Sr w p q h' w' := by
  have hbW := ask2_below w p q 10 xA xB xD xE c0 c1 c2 c3 cp cn cc
  have hzW := ask2_size w p q 10 xA xB xD xE c0 c1 c2 c3 cp cn cc
  have hza := askW_size w p q 10 xA xB xD xE c0 c1 c2 c3 cp cn cc
  refine (asked_Free w wb p q xA xB xD xE c0 c1 c2 c3 cp cn cc (PD2 R N A Sp Sr _ p q y h') (done_Free N A _ p q xA xB xD xE c0 c1 c2 c3 cp cn cc (PD1 R A Sp _ p y h') _ (pair_d1 P _ (by rw [hza]; omega) (by rw [hza, hzW]; omega) (hp _ hbW)) (fun ev w2 hq _ => pair_d2 ok P hE hbW hq (hr w2)) (fun ev y' w3 hq w' hb => ⟨hq.2.1.below hb hq.2.1.le, by rw [hq.1]; exact hq.2.2.1.below hb⟩))).mono ?_
  rintro e w' ⟨rfl, ev, y', w3, hq, hb⟩
  exact ⟨rfl, One.fin ok P hbW hq.2.2.2 (fun _ => False) (fun _ h => h.elim) (Kept.of_below hb)⟩

theorem pair_Push (ok : ROK R) (P : Pair R N Sp Sr w p q h) (hE : Errs N A w) (wb : Nat) (xA xB xD xE c0 c1 c2 c3 : Int) (cp : Option Addr) (cn cc : Nat) {y : Why}
    (hp : ∀ W, Below w.heap.size w W → Calls Tryz.prog 37 #[.pointer (some ⟨p, 0, none⟩)] W (DPostR R Sp W p A y h'))
    (hr : ∀ w2 tag Y, Rep Sr tag w2 q Y h → Calls Tryz.prog 143 #[.pointer (some ⟨q, 0, none⟩)] w2 (RDPost Sr w2 q y h')) :
    Calls Tryz.prog 81 #[.pointer (some ⟨wb, 0, none⟩), .agg #[.pointer (some ⟨p, 0, none⟩), .pointer (some ⟨q, 0, none⟩)], .agg #[.int .i64 15, .int .i64 xA, .int .i64 xB, .int .i64 xD, .int .i64 xE, .int .i64 c0, .int .i64 c1, .int .i64 c2, .int .i64 c3, .slice cp cn cc]] w fun e w' => e = .returned (.bool true) ∧ One R N Sp Sr w p q h' w' := by
  have hbW := ask2_below w p q 15 xA xB xD xE c0 c1 c2 c3 cp cn cc
  have hzW := ask2_size w p q 15 xA xB xD xE c0 c1 c2 c3 cp cn cc
  have hza := askW_size w p q 15 xA xB xD xE c0 c1 c2 c3 cp cn cc
  refine (asked_Push w wb p q xA xB xD xE c0 c1 c2 c3 cp cn cc (PD2 R N A Sp Sr _ p q y h') (done_Push N A _ p q xA xB xD xE c0 c1 c2 c3 cp cn cc (PD1 R A Sp _ p y h') _ (pair_d1 P _ (by rw [hza]; omega) (by rw [hza, hzW]; omega) (hp _ hbW)) (fun ev w2 hq _ => pair_d2 ok P hE hbW hq (hr w2)) (fun ev y' w3 hq w' hb => ⟨hq.2.1.below hb hq.2.1.le, by rw [hq.1]; exact hq.2.2.1.below hb⟩))).mono ?_
  rintro e w' ⟨rfl, ev, y', w3, hq, hb⟩
  exact ⟨rfl, One.fin ok P hbW hq.2.2.2 (fun _ => False) (fun _ h => h.elim) (Kept.of_below hb)⟩

theorem pair_Pin (ok : ROK R) (P : Pair R N Sp Sr w p q h) (hE : Errs N A w) (wb : Nat) (xA xB xD xE c0 c1 c2 c3 : Int) (cp : Option Addr) (cn cc : Nat) {y : Why}
    (hp : ∀ W, Below w.heap.size w W → Calls Tryz.prog 34 #[.pointer (some ⟨p, 0, none⟩), .int .i64 xB] W (DPostR R Sp W p A y h'))
    (hr : ∀ w2 tag Y, Rep Sr tag w2 q Y h → Calls Tryz.prog 144 #[.pointer (some ⟨q, 0, none⟩), .int .i64 xB] w2 (RDPost Sr w2 q y h')) :
    Calls Tryz.prog 81 #[.pointer (some ⟨wb, 0, none⟩), .agg #[.pointer (some ⟨p, 0, none⟩), .pointer (some ⟨q, 0, none⟩)], .agg #[.int .i64 17, .int .i64 xA, .int .i64 xB, .int .i64 xD, .int .i64 xE, .int .i64 c0, .int .i64 c1, .int .i64 c2, .int .i64 c3, .slice cp cn cc]] w fun e w' => e = .returned (.bool true) ∧ One R N Sp Sr w p q h' w' := by
  have hbW := ask2_below w p q 17 xA xB xD xE c0 c1 c2 c3 cp cn cc
  have hzW := ask2_size w p q 17 xA xB xD xE c0 c1 c2 c3 cp cn cc
  have hza := askW_size w p q 17 xA xB xD xE c0 c1 c2 c3 cp cn cc
  refine (asked_Pin w wb p q xA xB xD xE c0 c1 c2 c3 cp cn cc (PD2 R N A Sp Sr _ p q y h') (done_Pin N A _ p q xA xB xD xE c0 c1 c2 c3 cp cn cc (PD1 R A Sp _ p y h') _ (pair_d1 P _ (by rw [hza]; omega) (by rw [hza, hzW]; omega) (hp _ hbW)) (fun ev w2 hq _ => pair_d2 ok P hE hbW hq (hr w2)) (fun ev y' w3 hq w' hb => ⟨hq.2.1.below hb hq.2.1.le, by rw [hq.1]; exact hq.2.2.1.below hb⟩))).mono ?_
  rintro e w' ⟨rfl, ev, y', w3, hq, hb⟩
  exact ⟨rfl, One.fin ok P hbW hq.2.2.2 (fun _ => False) (fun _ h => h.elim) (Kept.of_below hb)⟩

theorem pair_Unpin (ok : ROK R) (P : Pair R N Sp Sr w p q h) (hE : Errs N A w) (wb : Nat) (xA xB xD xE c0 c1 c2 c3 : Int) (cp : Option Addr) (cn cc : Nat) {y : Why}
    (hp : ∀ W, Below w.heap.size w W → Calls Tryz.prog 35 #[.pointer (some ⟨p, 0, none⟩), .int .i64 xB] W (DPostR R Sp W p A y h'))
    (hr : ∀ w2 tag Y, Rep Sr tag w2 q Y h → Calls Tryz.prog 145 #[.pointer (some ⟨q, 0, none⟩), .int .i64 xB] w2 (RDPost Sr w2 q y h')) :
    Calls Tryz.prog 81 #[.pointer (some ⟨wb, 0, none⟩), .agg #[.pointer (some ⟨p, 0, none⟩), .pointer (some ⟨q, 0, none⟩)], .agg #[.int .i64 18, .int .i64 xA, .int .i64 xB, .int .i64 xD, .int .i64 xE, .int .i64 c0, .int .i64 c1, .int .i64 c2, .int .i64 c3, .slice cp cn cc]] w fun e w' => e = .returned (.bool true) ∧ One R N Sp Sr w p q h' w' := by
  have hbW := ask2_below w p q 18 xA xB xD xE c0 c1 c2 c3 cp cn cc
  have hzW := ask2_size w p q 18 xA xB xD xE c0 c1 c2 c3 cp cn cc
  have hza := askW_size w p q 18 xA xB xD xE c0 c1 c2 c3 cp cn cc
  refine (asked_Unpin w wb p q xA xB xD xE c0 c1 c2 c3 cp cn cc (PD2 R N A Sp Sr _ p q y h') (done_Unpin N A _ p q xA xB xD xE c0 c1 c2 c3 cp cn cc (PD1 R A Sp _ p y h') _ (pair_d1 P _ (by rw [hza]; omega) (by rw [hza, hzW]; omega) (hp _ hbW)) (fun ev w2 hq _ => pair_d2 ok P hE hbW hq (hr w2)) (fun ev y' w3 hq w' hb => ⟨hq.2.1.below hb hq.2.1.le, by rw [hq.1]; exact hq.2.2.1.below hb⟩))).mono ?_
  rintro e w' ⟨rfl, ev, y', w3, hq, hb⟩
  exact ⟨rfl, One.fin ok P hbW hq.2.2.2 (fun _ => False) (fun _ h => h.elim) (Kept.of_below hb)⟩

end
end Go.Proofs.YtcnmfljpmpgnjaaGreatDoor

namespace Go.Proofs.YtcnmfljpmpgnjaaGreatDoor
open Go.RowKit
open Tm (H Ob Sl Why)

section
variable {R : (Nat → Prop) → World → Nat → H → Prop} {N : Nat} {A : Nat → Addr} {Sp Sr : Nat → Prop} {w W : World} {p q : Nat} {h h' : H}

/-- What the program's Collect leaves. -/
def CPostR (R : (Nat → Prop) → World → Nat → H → Prop) (S : Nat → Prop) (w : World) (a : Nat) (n : Int) (h' : H) (e : Ending) (w' : World) : Prop := e = .returned (.int .i64 n) ∧ ∃ S', R S' w' a h' ∧ Kept S w w' ∧ ∀ b, S' b → S b ∨ w.heap.size ≤ b
/-- The document's. -/
def RCPost (S : Nat → Prop) (w : World) (a : Nat) (n : Int) (h' : H) (e : Ending) (w' : World) : Prop := e = .returned (.int .i64 n) ∧ ∃ S' tag Y, Rep S' tag w' a Y h' ∧ Kept S w w' ∧ ∀ b, S' b → S b ∨ w.heap.size ≤ b

theorem one_both (ok : ROK R) (P : Pair R N Sp Sr w p q h) (hE : Errs N A w) (hb : Below w.heap.size w W) {w2 w3 : World} {Sp' : Nat → Prop} (hR : R Sp' w2 p h') (hk : Kept Sp W w2) (hn : ∀ b, Sp' b → Sp b ∨ W.heap.size ≤ b) {Sr' : Nat → Prop} {tag : Nat → Nat × Nat} {Y : Lay} (r3 : Rep Sr' tag w3 q Y h') (hk3 : Kept Sr w2 w3) (hn3 : ∀ b, Sr' b → Sr b ∨ w2.heap.size ≤ b) : One R N Sp Sr W p q h' w3 := by
  have hlt := ok.lt _ _ _ _ hR
  have hz := hk.size
  have hz3 := hk3.size
  have hbz := hb.size
  have hsr : ∀ b, Sr b → b < w.heap.size := fun b hs => (P.lr b hs).2
  have dj' : ∀ b, Sp' b → ¬ Sr' b := fun b h1 h2 => by
    have hb1 := hlt b h1
    rcases hn3 b h2 with q2 | q2
    · rcases hn b h1 with q1 | q1
      · exact P.dj b q1 q2
      · have := hsr b q2; omega
    · omega
  refine ⟨Sp', Sr', ⟨ok.same _ _ _ _ _ hR (fun b hs => hk3.block b (hlt b hs) (fun hs2 => ?_)) hz3, ⟨tag, Y, r3⟩, dj', fun b hs => ⟨?_, Nat.lt_of_lt_of_le (hlt b hs) hz3⟩, fun b hs => ⟨?_, r3.lt b hs⟩⟩, ?_, hn, fun b hs => ?_⟩
  · rcases hn b hs with q1 | q1
    · exact P.dj b q1 hs2
    · have := hsr b hs2; omega
  · rcases hn b hs with q1 | q1
    · exact (P.lp b q1).1
    · have := hE.le; omega
  · rcases hn3 b hs with q1 | q1
    · exact (P.lr b q1).1
    · have := hE.le; omega
  · exact ⟨hk3.os.trans hk.os, hk3.tape.trans hk.tape, hk3.output.trans hk.output, Nat.le_trans hz hz3, fun i hi hn => (hk3.block i (by omega) (fun hs => hn (Or.inr hs))).trans (hk.block i hi (fun hs => hn (Or.inl hs)))⟩
  · rcases hn3 b hs with q1 | q1
    · exact Or.inl q1
    · exact Or.inr (by omega)

theorem ref_at (ok : ROK R) (P : Pair R N Sp Sr w p q h) (hb : Below w.heap.size w W) {w2 : World} (hk : Kept Sp W w2) : ∃ tag Y, Rep Sr tag w2 q Y h := by
  have PW := P.below ok hb
  obtain ⟨tag, Y, r⟩ := PW.ref
  exact ⟨tag, Y, r.same (fun b hs => hk.block b (PW.lr b hs).2 (fun h => PW.dj b h hs)) hk.size⟩

theorem pair_Collect (ok : ROK R) (P : Pair R N Sp Sr w p q h) (hE : Errs N A w) (wb : Nat) (xA xB xD xE c0 c1 c2 c3 : Int) (cp : Option Addr) (cn cc : Nat) {n : Int}
    (hp : ∀ W, Below w.heap.size w W → Calls Tryz.prog 20 #[.pointer (some ⟨p, 0, none⟩)] W (CPostR R Sp W p n h'))
    (hr : ∀ w2 tag Y, Rep Sr tag w2 q Y h → Calls Tryz.prog 109 #[.pointer (some ⟨q, 0, none⟩)] w2 (RCPost Sr w2 q n h')) :
    Calls Tryz.prog 81 #[.pointer (some ⟨wb, 0, none⟩), .agg #[.pointer (some ⟨p, 0, none⟩), .pointer (some ⟨q, 0, none⟩)], .agg #[.int .i64 12, .int .i64 xA, .int .i64 xB, .int .i64 xD, .int .i64 xE, .int .i64 c0, .int .i64 c1, .int .i64 c2, .int .i64 c3, .slice cp cn cc]] w fun e w' => e = .returned (.bool true) ∧ One R N Sp Sr w p q h' w' := by
  have hbW := askW_below w p q 12 xA xB xD xE c0 c1 c2 c3 cp cn cc
  have hza := askW_size w p q 12 xA xB xD xE c0 c1 c2 c3 cp cn cc
  refine (asked_Collect w wb p q xA xB xD xE c0 c1 c2 c3 cp cn cc n (fun w2 => ∃ Sp', R Sp' w2 p h' ∧ Kept Sp (askW w p q 12 xA xB xD xE c0 c1 c2 c3 cp cn cc) w2 ∧ ∀ b, Sp' b → Sp b ∨ (askW w p q 12 xA xB xD xE c0 c1 c2 c3 cp cn cc).heap.size ≤ b) (fun w3 => One R N Sp Sr (askW w p q 12 xA xB xD xE c0 c1 c2 c3 cp cn cc) p q h' w3) ((hp _ hbW).mono ?_) (fun w2 hq => ?_)).mono ?_
  · rintro e w' ⟨rfl, S', hR, hk, hn⟩
    exact ⟨rfl, ⟨S', hR, hk, hn⟩, hk.size, fun x h1 h2 => hk.block x (by rw [hza]; omega) (fun hs => by have := (P.lp x hs).2; omega)⟩
  · obtain ⟨Sp', hR, hk, hn⟩ := hq
    obtain ⟨tag, Y, r2⟩ := ref_at ok P hbW hk
    refine (hr w2 tag Y r2).mono ?_
    rintro e w3 ⟨rfl, Sr', tag', Y', r3, hk3, hn3⟩
    exact ⟨rfl, one_both ok P hE hbW hR hk hn r3 hk3 hn3⟩
  · rintro e w' ⟨rfl, o⟩
    exact ⟨rfl, One.fin ok P hbW o (fun _ => False) (fun _ h => h.elim) (Kept.refl _ _)⟩

/-- What the program's Same leaves. -/
def BPostR (R : (Nat → Prop) → World → Nat → H → Prop) (S : Nat → Prop) (w : World) (a : Nat) (A : Nat → Addr) (n : Bool) (y : Why) (h' : H) (e : Ending) (w' : World) : Prop :=
  ∃ ev, e = .returned (.tuple #[.bool n, ev]) ∧ ErrIn A w.heap.size w' ev y ∧ R S w' a h' ∧ Kept S w w'

theorem pair_Same (ok : ROK R) (P : Pair R N Sp Sr w p q h) (hE : Errs N A w) (wb : Nat) (xA xB xD xE c0 c1 c2 c3 : Int) (cp : Option Addr) (cn cc : Nat) {n : Bool} {y : Why}
    (hp : ∀ W, Below w.heap.size w W → Calls Tryz.prog 40 #[.pointer (some ⟨p, 0, none⟩), .int .i64 xB, .int .i64 xD] W (BPostR R Sp W p A n y h))
    (hr : ∀ w2 tag Y, Rep Sr tag w2 q Y h → Calls Tryz.prog 107 #[.pointer (some ⟨q, 0, none⟩), .int .i64 xB, .int .i64 xD] w2 fun e w' => e = .returned (.tuple #[.bool n, whyV y]) ∧ Below w2.heap.size w2 w') :
    Calls Tryz.prog 81 #[.pointer (some ⟨wb, 0, none⟩), .agg #[.pointer (some ⟨p, 0, none⟩), .pointer (some ⟨q, 0, none⟩)], .agg #[.int .i64 8, .int .i64 xA, .int .i64 xB, .int .i64 xD, .int .i64 xE, .int .i64 c0, .int .i64 c1, .int .i64 c2, .int .i64 c3, .slice cp cn cc]] w fun e w' => e = .returned (.bool true) ∧ One R N Sp Sr w p q h w' := by
  have hbW := askW_below w p q 8 xA xB xD xE c0 c1 c2 c3 cp cn cc
  have hza := askW_size w p q 8 xA xB xD xE c0 c1 c2 c3 cp cn cc
  refine (asked_Same N A w wb p q xA xB xD xE c0 c1 c2 c3 cp cn cc (fun b ev w2 => b = n ∧ ErrIs A w2 ev y ∧ R Sp w2 p h ∧ Kept Sp (askW w p q 8 xA xB xD xE c0 c1 c2 c3 cp cn cc) w2) (fun b ev c y' w3 => b = n ∧ c = n ∧ y' = y ∧ Errs N A w3 ∧ ErrIs A w3 ev y ∧ One R N Sp Sr (askW w p q 8 xA xB xD xE c0 c1 c2 c3 cp cn cc) p q h w3) ((hp _ hbW).mono ?_) (fun b ev w2 hq => ?_) (fun b ev c y' w3 hq => ?_)).mono ?_
  · rintro e w' ⟨ev, rfl, he, hR, hk⟩
    exact ⟨n, ev, rfl, ⟨rfl, he.1, hR, hk⟩, hk.size, fun x h1 h2 => hk.block x (by rw [hza]; omega) (fun hs => by have := (P.lp x hs).2; omega)⟩
  · obtain ⟨rfl, he, hR, hk⟩ := hq
    obtain ⟨tag, Y, r2⟩ := ref_at ok P hbW hk
    refine (hr w2 tag Y r2).mono ?_
    rintro e w3 ⟨rfl, hb3⟩
    have hE2 : Errs N A w2 := (hE.below hbW hE.le).off' hk (fun b hs => (P.lp b hs).1)
    exact ⟨b, y, rfl, rfl, rfl, rfl, hE2.below hb3 hE2.le, he.below hb3, one_both ok P hE hbW hR hk (fun b hb => Or.inl hb) (r2.below hb3 (Nat.le_refl _)) (Kept.of_below hb3) (fun b hb => Or.inl hb)⟩
  · obtain ⟨rfl, rfl, rfl, hE3, he3, _⟩ := hq
    exact ⟨rfl, fun w' hb => ⟨hE3.below hb hE3.le, he3.below hb⟩⟩
  · rintro e w' ⟨rfl, b, ev, c, y', w3, hq, hb⟩
    exact ⟨rfl, One.fin ok P hbW hq.2.2.2.2.2 (fun _ => False) (fun _ h => h.elim) (Kept.of_below hb)⟩
end
end Go.Proofs.YtcnmfljpmpgnjaaGreatDoor
