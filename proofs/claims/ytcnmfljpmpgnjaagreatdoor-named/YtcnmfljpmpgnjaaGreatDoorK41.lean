import Derived.Test.YtcnmfljpmpgnjaaGreatDoorK37
import Derived.Test.YtcnmfljpmpgnjaaGreatDoorK40
import Derived.Test.YtcnmfljpmpgnjaaGreatDoorK36
namespace Go.Proofs.YtcnmfljpmpgnjaaGreatDoor
open Go.RowKit
open Tm (H Ob Sl Why)

def stats6 (h : H) : Array Value := #[.int .i64 (Tm.countOf h.l), .int .i64 (Tm.roomOf h.l), .int .i64 (Tm.takenOf (h.t 1)), .int .i64 (Tm.takenOf (h.t 2)), .int .i64 (Tm.takenOf (h.t 3)), .int .i64 h.frames]

/-- What the program answers, call by call: as the document's data says. -/
structure ProgOK (R : (Nat → Prop) → World → Nat → H → Prop) (N : Nat) (A : Nat → Addr) : Prop where
  ok : ROK R
  make : ∀ S w p h M c, R S w p h → Errs N A w → (∀ b, S b → N ≤ b) → Tm.Marked h M → h.l.length + 1 < 4398046511104 → 0 < h.classes.length → Calls Tryz.prog 25 #[.pointer (some ⟨p, 0, none⟩), .int .i64 c] w (HPostR R S w p A (h.ofClass M c).1.1 (h.ofClass M c).1.2 (h.ofClass M c).2)
  arr : ∀ S w p h M k n, R S w p h → Errs N A w → (∀ b, S b → N ≤ b) → Tm.Marked h M → h.l.length + 1 < 4398046511104 → Calls Tryz.prog 147 #[.pointer (some ⟨p, 0, none⟩), .int .i64 k, .int .i64 n] w (HPostR R S w p A (h.arr M k n).1.1 (h.arr M k n).1.2 (h.arr M k n).2)
  get : ∀ S w p h x i, R S w p h → Errs N A w → (∀ b, S b → N ≤ b) → x < 9223372036854775808 → Calls Tryz.prog 41 #[.pointer (some ⟨p, 0, none⟩), .int .i64 x, .int .i64 i] w (HPostR R S w p A (h.get x i).1 (h.get x i).2 h)
  follow : ∀ S w p h x i, R S w p h → Errs N A w → (∀ b, S b → N ≤ b) → x < 9223372036854775808 → Calls Tryz.prog 42 #[.pointer (some ⟨p, 0, none⟩), .int .i64 x, .int .i64 i] w (HPostR R S w p A (h.follow x i).1.1 (h.follow x i).1.2 (h.follow x i).2)
  ref : ∀ S w p h k x, R S w p h → Errs N A w → (∀ b, S b → N ≤ b) → x < 9223372036854775808 → Calls Tryz.prog 17 #[.pointer (some ⟨p, 0, none⟩), .int .i64 k, .int .i64 x] w (HPostR R S w p A (h.ref k x).1.1 (h.ref k x).1.2 (h.ref k x).2)
  set : ∀ S w p h x i v, R S w p h → Errs N A w → (∀ b, S b → N ≤ b) → x < 9223372036854775808 → Calls Tryz.prog 36 #[.pointer (some ⟨p, 0, none⟩), .int .i64 x, .int .i64 i, .int .i64 v] w (DPostR R S w p A (h.set x i v).1 (h.set x i v).2)
  point : ∀ S w p h x i z, R S w p h → Errs N A w → (∀ b, S b → N ≤ b) → x < 9223372036854775808 → z < 9223372036854775808 → Calls Tryz.prog 43 #[.pointer (some ⟨p, 0, none⟩), .int .i64 x, .int .i64 i, .int .i64 z] w (DPostR R S w p A (h.point x i z).1 (h.point x i z).2)
  free : ∀ S w p h x, R S w p h → Errs N A w → (∀ b, S b → N ≤ b) → x < 9223372036854775808 → Calls Tryz.prog 23 #[.pointer (some ⟨p, 0, none⟩), .int .i64 x] w (DPostR R S w p A (h.freed x).1 (h.freed x).2)
  same : ∀ S w p h x z, R S w p h → Errs N A w → (∀ b, S b → N ≤ b) → x < 9223372036854775808 → z < 9223372036854775808 → Calls Tryz.prog 40 #[.pointer (some ⟨p, 0, none⟩), .int .i64 x, .int .i64 z] w (BPostR R S w p A (h.same x z).1 (h.same x z).2 h)
  stats : ∀ S w p h, R S w p h → Errs N A w → Calls Tryz.prog 21 #[.pointer (some ⟨p, 0, none⟩)] w fun e w' => e = .returned (.agg (stats6 h)) ∧ Below w.heap.size w w'
  collect : ∀ S w p h M, R S w p h → Errs N A w → (∀ b, S b → N ≤ b) → Tm.Marked h M → Calls Tryz.prog 20 #[.pointer (some ⟨p, 0, none⟩)] w (CPostR R S w p (h.collNum M h.l.length) (h.collTo M h.l.length))
  extern : ∀ S w p h M n, R S w p h → Errs N A w → (∀ b, S b → N ≤ b) → Tm.Marked h M → h.l.length + 1 < 4398046511104 → Calls Tryz.prog 31 #[.pointer (some ⟨p, 0, none⟩), .int .i64 n] w (HPostR R S w p A (h.extern M n).1.1 (h.extern M n).1.2 (h.extern M n).2)
  ended : ∀ S w p h, R S w p h → Errs N A w → (∀ b, S b → N ≤ b) → h.toldOK → Calls Tryz.prog 32 #[.pointer (some ⟨p, 0, none⟩)] w (EPostR R S w p h.ended h.told)

/-- .. frames and pins, too. -/
structure ProgAll (R : (Nat → Prop) → World → Nat → H → Prop) (N : Nat) (A : Nat → Addr) : Prop where
  ok : ProgOK R N A
  push : ∀ S w p h, R S w p h → Errs N A w → (∀ b, S b → N ≤ b) → Calls Tryz.prog 37 #[.pointer (some ⟨p, 0, none⟩)] w (DPostR R S w p A h.push.1 h.push.2)
  pop : ∀ S w p h x, R S w p h → Errs N A w → (∀ b, S b → N ≤ b) → x < 9223372036854775808 → Calls Tryz.prog 39 #[.pointer (some ⟨p, 0, none⟩), .int .i64 x] w (HPostR R S w p A (h.pop x).1.1 (h.pop x).1.2 (h.pop x).2)
  pin : ∀ S w p h x, R S w p h → Errs N A w → (∀ b, S b → N ≤ b) → x < 9223372036854775808 → Calls Tryz.prog 34 #[.pointer (some ⟨p, 0, none⟩), .int .i64 x] w (DPostR R S w p A (h.pin x).1 (h.pin x).2)
  unpin : ∀ S w p h x, R S w p h → Errs N A w → (∀ b, S b → N ≤ b) → x < 9223372036854775808 → Calls Tryz.prog 35 #[.pointer (some ⟨p, 0, none⟩), .int .i64 x] w (DPostR R S w p A (h.unpin x).1 (h.unpin x).2)

theorem makeBy_any (h : H) (M M' : List Bool) (ks : List Int) (nm : Int) (hn : ¬ h.needs ks) : h.makeBy M ks nm = h.makeBy M' ks nm := by
  unfold H.makeBy
  by_cases hf : h.free 1 < 0
  · rw [if_pos hf, if_pos hf]
  · have hr : ¬ h.room < Tm.roomOf h.l + (1 + (ks.length : Int)) := fun q => hn ⟨by omega, q⟩
    have e : ∀ M, h.roomy M ks = h := fun M => by unfold H.roomy; rw [if_neg hr]
    rw [e M, e M']

/-- Which marks were taken makes no odds. -/
theorem made_is {S : Nat → Prop} {w w' : World} {a : Nat} {h : H} {need : Prop} {F : List Bool → (Int × Why) × H} {e : Ending} {M0 : List Bool} (hM : Tm.Marked h M0) (hF : ¬ need → ∀ M M', F M = F M') (m : Made S w a h need F S (fun _ => False) e w') : RPost S w a (F M0).1.1 (F M0).1.2 (F M0).2 e w' := by
  obtain ⟨M, h1, rfl, S', tag', Y', r, k, hn⟩ := m
  have eM : F M = F M0 := by
    by_cases hne : need
    · rw [(h1 hne).unique hM]
    · exact hF hne M M0
  rw [eM] at r
  exact ⟨by rw [eM], S', tag', Y', r, k, fun b hb => by rcases hn b hb with h | h | h; exact Or.inl h; exact h.elim; exact Or.inr h⟩

section
variable {R : (Nat → Prop) → World → Nat → H → Prop} {N : Nat} {A : Nat → Addr} {wb i : Nat}

theorem Pair.on {Sp Sr : Nat → Prop} {W W' : World} {p q : Nat} {h : H} (ok : ROK R) (P : Pair R N Sp Sr W p q h) (hE : Errs N A W) (hb : Below W.heap.size W W') : R Sp W' p h ∧ Errs N A W' ∧ ∀ b, Sp b → N ≤ b :=
  ⟨(P.below ok hb).prog, hE.below hb hE.le, fun b hs => (P.lp b hs).1⟩

theorem ask_Make (K : ProgOK R N A) (hi : i + 1 < 4398046511104) (xA xB xD xE c0 c1 c2 c3 : Int) (cp : Option Addr) (cn cc : Nat) : AskOK R N A wb i 2 xA xB xD xE c0 c1 c2 c3 cp cn cc := fun W Sp Sr p q h P hE hf hl => by
  obtain ⟨M, hM⟩ := Tm.marked_exists h
  refine ⟨(h.ofClass M xB).2, (hf.ofClass M xB).1, by have := (hf.ofClass M xB).2; omega, pair_Make K.ok P hE wb xA xB xD xE c0 c1 c2 c3 cp cn cc (n := (h.ofClass M xB).1.1) (y := (h.ofClass M xB).1.2) (fun W' hb => ?_) (fun w2 tag Y r => ?_)⟩
  · obtain ⟨q1, q2, q3⟩ := P.on K.ok hE hb
    exact K.make _ _ _ _ M _ q1 q2 q3 hM (by omega) hf.cls
  · refine (mk_any r xB hf.told (by omega)).mono fun e w' m => made_is hM (fun hne M1 M2 => ?_) m
    show h.ofClass M1 xB = h.ofClass M2 xB
    unfold H.ofClass
    split
    · rename_i hc; exact makeBy_any h M1 M2 _ _ (fun q => hne ⟨hc, q⟩)
    · rfl

theorem ask_Array (K : ProgOK R N A) (hi : i + 1 < 4398046511104) (xA xB xD xE c0 c1 c2 c3 : Int) (cp : Option Addr) (cn cc : Nat) : AskOK R N A wb i 3 xA xB xD xE c0 c1 c2 c3 cp cn cc := fun W Sp Sr p q h P hE hf hl => by
  obtain ⟨M, hM⟩ := Tm.marked_exists h
  refine ⟨(h.arr M xB xD).2, (hf.arr M xB xD).1, by have := (hf.arr M xB xD).2; omega, pair_Array K.ok P hE wb xA xB xD xE c0 c1 c2 c3 cp cn cc (n := (h.arr M xB xD).1.1) (y := (h.arr M xB xD).1.2) (fun W' hb => ?_) (fun w2 tag Y r => ?_)⟩
  · obtain ⟨q1, q2, q3⟩ := P.on K.ok hE hb
    exact K.arr _ _ _ _ M _ _ q1 q2 q3 hM (by omega)
  · refine (arr_any r xB xD hf.told (by omega)).mono fun e w' m => made_is hM (fun hne M1 M2 => ?_) m
    show h.arr M1 xB xD = h.arr M2 xB xD
    unfold H.arr
    split
    · rename_i hc; exact makeBy_any h M1 M2 _ _ (fun q => hne ⟨hc, q⟩)
    · rfl

theorem ask_Get (K : ProgOK R N A) (xA xB xD xE c0 c1 c2 c3 : Int) (cp : Option Addr) (cn cc : Nat) (hx : xB < 9223372036854775808) : AskOK R N A wb i 4 xA xB xD xE c0 c1 c2 c3 cp cn cc := fun W Sp Sr p q h P hE hf hl => by
  refine ⟨h, hf, by omega, pair_Get K.ok P hE wb xA xB xD xE c0 c1 c2 c3 cp cn cc (n := (h.get xB xD).1) (y := (h.get xB xD).2) (fun W' hb => ?_) (fun w2 tag Y r => ?_)⟩
  · obtain ⟨q1, q2, q3⟩ := P.on K.ok hE hb
    exact K.get _ _ _ _ _ _ q1 q2 q3 hx
  · refine (get_any r xB xD hx).mono ?_
    rintro e w' ⟨rfl, hb⟩
    exact ⟨rfl, Sr, tag, Y, r.below hb (Nat.le_refl _), Kept.of_below hb, fun b hb => Or.inl hb⟩

theorem ask_Follow (K : ProgOK R N A) (xA xB xD xE c0 c1 c2 c3 : Int) (cp : Option Addr) (cn cc : Nat) (hx : xB < 9223372036854775808) : AskOK R N A wb i 6 xA xB xD xE c0 c1 c2 c3 cp cn cc := fun W Sp Sr p q h P hE hf hl => by
  refine ⟨(h.follow xB xD).2, (hf.follow xB xD).1, by rw [(hf.follow xB xD).2]; omega, pair_Follow K.ok P hE wb xA xB xD xE c0 c1 c2 c3 cp cn cc (n := (h.follow xB xD).1.1) (y := (h.follow xB xD).1.2) (fun W' hb => ?_) (fun w2 tag Y r => ?_)⟩
  · obtain ⟨q1, q2, q3⟩ := P.on K.ok hE hb
    exact K.follow _ _ _ _ _ _ q1 q2 q3 hx
  · refine (follow_any r xB xD hx).mono ?_
    rintro e w' ⟨rfl, r', k⟩
    exact ⟨rfl, Sr, tag, Y, r', k, fun b hb => Or.inl hb⟩

theorem ask_Ref (K : ProgOK R N A) (xA xB xD xE c0 c1 c2 c3 : Int) (cp : Option Addr) (cn cc : Nat) (hx : xD < 9223372036854775808) : AskOK R N A wb i 9 xA xB xD xE c0 c1 c2 c3 cp cn cc := fun W Sp Sr p q h P hE hf hl => by
  refine ⟨(h.ref xB xD).2, (hf.ref xB xD).1, by rw [(hf.ref xB xD).2]; omega, pair_Ref K.ok P hE wb xA xB xD xE c0 c1 c2 c3 cp cn cc (n := (h.ref xB xD).1.1) (y := (h.ref xB xD).1.2) (fun W' hb => ?_) (fun w2 tag Y r => ?_)⟩
  · obtain ⟨q1, q2, q3⟩ := P.on K.ok hE hb
    exact K.ref _ _ _ _ _ _ q1 q2 q3 hx
  · refine (ref_any r xB xD hx).mono ?_
    rintro e w' ⟨rfl, r', k⟩
    exact ⟨rfl, Sr, tag, Y, r', k, fun b hb => Or.inl hb⟩

theorem ask_Set (K : ProgOK R N A) (xA xB xD xE c0 c1 c2 c3 : Int) (cp : Option Addr) (cn cc : Nat) (hx : xB < 9223372036854775808) : AskOK R N A wb i 5 xA xB xD xE c0 c1 c2 c3 cp cn cc := fun W Sp Sr p q h P hE hf hl => by
  refine ⟨(h.set xB xD xE).2, hf.set xB xD xE, by rw [len_set]; omega, pair_Set K.ok P hE wb xA xB xD xE c0 c1 c2 c3 cp cn cc (y := (h.set xB xD xE).1) (fun W' hb => ?_) (fun w2 tag Y r => ?_)⟩
  · obtain ⟨q1, q2, q3⟩ := P.on K.ok hE hb
    exact K.set _ _ _ _ _ _ _ q1 q2 q3 hx
  · refine (set_any r xB xD xE hx).mono ?_
    rintro e w' ⟨rfl, r', k⟩
    exact ⟨rfl, tag, Y, r', k⟩

theorem ask_Point (K : ProgOK R N A) (xA xB xD xE c0 c1 c2 c3 : Int) (cp : Option Addr) (cn cc : Nat) (hx : xB < 9223372036854775808) (hz : xE < 9223372036854775808) : AskOK R N A wb i 7 xA xB xD xE c0 c1 c2 c3 cp cn cc := fun W Sp Sr p q h P hE hf hl => by
  refine ⟨(h.point xB xD xE).2, hf.point xB xD xE, by rw [len_point]; omega, pair_Point K.ok P hE wb xA xB xD xE c0 c1 c2 c3 cp cn cc (y := (h.point xB xD xE).1) (fun W' hb => ?_) (fun w2 tag Y r => ?_)⟩
  · obtain ⟨q1, q2, q3⟩ := P.on K.ok hE hb
    exact K.point _ _ _ _ _ _ _ q1 q2 q3 hx hz
  · refine (point_any r xB xD xE hx hz).mono ?_
    rintro e w' ⟨rfl, r', k⟩
    exact ⟨rfl, tag, Y, r', k⟩

theorem ask_Free (K : ProgOK R N A) (xA xB xD xE c0 c1 c2 c3 : Int) (cp : Option Addr) (cn cc : Nat) (hx : xB < 9223372036854775808) : AskOK R N A wb i 10 xA xB xD xE c0 c1 c2 c3 cp cn cc := fun W Sp Sr p q h P hE hf hl => by
  refine ⟨(h.freed xB).2, (hf.freed xB).1, by rw [(hf.freed xB).2]; omega, pair_Free K.ok P hE wb xA xB xD xE c0 c1 c2 c3 cp cn cc (y := (h.freed xB).1) (fun W' hb => ?_) (fun w2 tag Y r => ?_)⟩
  · obtain ⟨q1, q2, q3⟩ := P.on K.ok hE hb
    exact K.free _ _ _ _ _ q1 q2 q3 hx
  · refine (freed_any r xB hx).mono ?_
    rintro e w' ⟨rfl, r', k⟩
    exact ⟨rfl, tag, Y, r', k⟩

theorem ask_Same (K : ProgOK R N A) (xA xB xD xE c0 c1 c2 c3 : Int) (cp : Option Addr) (cn cc : Nat) (hx : xB < 9223372036854775808) (hz : xD < 9223372036854775808) : AskOK R N A wb i 8 xA xB xD xE c0 c1 c2 c3 cp cn cc := fun W Sp Sr p q h P hE hf hl => by
  refine ⟨h, hf, by omega, pair_Same K.ok P hE wb xA xB xD xE c0 c1 c2 c3 cp cn cc (n := (h.same xB xD).1) (y := (h.same xB xD).2) (fun W' hb => ?_) (fun w2 tag Y r => ?_)⟩
  · obtain ⟨q1, q2, q3⟩ := P.on K.ok hE hb
    exact K.same _ _ _ _ _ _ q1 q2 q3 hx hz
  · exact same_any r xB xD hx hz

theorem ask_Collect (K : ProgOK R N A) (xA xB xD xE c0 c1 c2 c3 : Int) (cp : Option Addr) (cn cc : Nat) : AskOK R N A wb i 12 xA xB xD xE c0 c1 c2 c3 cp cn cc := fun W Sp Sr p q h P hE hf hl => by
  obtain ⟨M, hM⟩ := Tm.marked_exists h
  refine ⟨h.collTo M h.l.length, hf.coll M, by rw [Tm.collTo_len]; omega, pair_Collect K.ok P hE wb xA xB xD xE c0 c1 c2 c3 cp cn cc (n := h.collNum M h.l.length) (fun W' hb => ?_) (fun w2 tag Y r => ?_)⟩
  · obtain ⟨q1, q2, q3⟩ := P.on K.ok hE hb
    exact K.collect _ _ _ _ M q1 q2 q3 hM
  · refine (collect_any r hf.told).mono ?_
    rintro e w' ⟨M', S1, tag1, Y1, hM', rfl, r', k, hs1, _⟩
    obtain rfl := hM'.unique hM
    exact ⟨rfl, S1, tag1, Y1, r', ⟨k.os, k.tape, k.output, k.size, fun x hx hn => k.block x hx (fun h => hn h.1)⟩, hs1⟩

theorem ask_Extern (K : ProgOK R N A) (hi : i + 1 < 4398046511104) (xA xB xD xE c0 c1 c2 c3 : Int) (cp : Option Addr) (cn cc : Nat) : AskOK R N A wb i 13 xA xB xD xE c0 c1 c2 c3 cp cn cc := fun W Sp Sr p q h P hE hf hl => by
  obtain ⟨M, hM⟩ := Tm.marked_exists h
  refine ⟨(h.extern M xB).2, (hf.extern M xB).1, by have := (hf.extern M xB).2; omega, pair_Extern K.ok P hE wb xA xB xD xE c0 c1 c2 c3 cp cn cc (n := (h.extern M xB).1.1) (y := (h.extern M xB).1.2) (fun W' hb => ?_) (fun w2 tag Y r => ?_)⟩
  · obtain ⟨q1, q2, q3⟩ := P.on K.ok hE hb
    exact K.extern _ _ _ _ M _ q1 q2 q3 hM (by omega)
  · refine (extern_any r xB hf.told (by omega)).mono fun e w' m => made_is hM (fun hne M1 M2 => ?_) m
    show h.extern M1 xB = h.extern M2 xB
    unfold H.extern
    split
    · rename_i hc; exact makeBy_any h M1 M2 _ _ (fun q => hne ⟨hc, q⟩)
    · rfl

theorem ask_Push (K : ProgAll R N A) (xA xB xD xE c0 c1 c2 c3 : Int) (cp : Option Addr) (cn cc : Nat) : AskOK R N A wb i 15 xA xB xD xE c0 c1 c2 c3 cp cn cc := fun W Sp Sr p q h P hE hf hl => by
  refine ⟨h.push.2, hf.push.1, by rw [hf.push.2]; omega, pair_Push K.ok.ok P hE wb xA xB xD xE c0 c1 c2 c3 cp cn cc (y := h.push.1) (fun W' hb => ?_) (fun w2 tag Y r => ?_)⟩
  · obtain ⟨q1, q2, q3⟩ := P.on K.ok.ok hE hb
    exact K.push _ _ _ _ q1 q2 q3
  · refine (push_any r).mono ?_
    rintro e w' ⟨rfl, r', k⟩
    exact ⟨rfl, tag, Y, r', k⟩

theorem ask_Pop (K : ProgAll R N A) (xA xB xD xE c0 c1 c2 c3 : Int) (cp : Option Addr) (cn cc : Nat) (hx : xB < 9223372036854775808) : AskOK R N A wb i 16 xA xB xD xE c0 c1 c2 c3 cp cn cc := fun W Sp Sr p q h P hE hf hl => by
  refine ⟨(h.pop xB).2, (hf.pop xB).1, by rw [(hf.pop xB).2]; omega, pair_Pop K.ok.ok P hE wb xA xB xD xE c0 c1 c2 c3 cp cn cc (n := (h.pop xB).1.1) (y := (h.pop xB).1.2) (fun W' hb => ?_) (fun w2 tag Y r => ?_)⟩
  · obtain ⟨q1, q2, q3⟩ := P.on K.ok.ok hE hb
    exact K.pop _ _ _ _ _ q1 q2 q3 hx
  · exact pop_any r xB hx hf.locs

theorem ask_Pin (K : ProgAll R N A) (xA xB xD xE c0 c1 c2 c3 : Int) (cp : Option Addr) (cn cc : Nat) (hx : xB < 9223372036854775808) : AskOK R N A wb i 17 xA xB xD xE c0 c1 c2 c3 cp cn cc := fun W Sp Sr p q h P hE hf hl => by
  refine ⟨(h.pin xB).2, (hf.pin xB).1, by rw [(hf.pin xB).2]; omega, pair_Pin K.ok.ok P hE wb xA xB xD xE c0 c1 c2 c3 cp cn cc (y := (h.pin xB).1) (fun W' hb => ?_) (fun w2 tag Y r => ?_)⟩
  · obtain ⟨q1, q2, q3⟩ := P.on K.ok.ok hE hb
    exact K.pin _ _ _ _ _ q1 q2 q3 hx
  · refine (pin_any r xB hx).mono ?_
    rintro e w' ⟨rfl, r', k⟩
    exact ⟨rfl, tag, Y, r', k⟩

theorem ask_Unpin (K : ProgAll R N A) (xA xB xD xE c0 c1 c2 c3 : Int) (cp : Option Addr) (cn cc : Nat) (hx : xB < 9223372036854775808) : AskOK R N A wb i 18 xA xB xD xE c0 c1 c2 c3 cp cn cc := fun W Sp Sr p q h P hE hf hl => by
  refine ⟨(h.unpin xB).2, (hf.unpin xB).1, by rw [(hf.unpin xB).2]; omega, pair_Unpin K.ok.ok P hE wb xA xB xD xE c0 c1 c2 c3 cp cn cc (y := (h.unpin xB).1) (fun W' hb => ?_) (fun w2 tag Y r => ?_)⟩
  · obtain ⟨q1, q2, q3⟩ := P.on K.ok.ok hE hb
    exact K.unpin _ _ _ _ _ q1 q2 q3 hx
  · refine (unpin_any r xB hx).mono ?_
    rintro e w' ⟨rfl, r', k⟩
    exact ⟨rfl, tag, Y, r', k⟩
end
end Go.Proofs.YtcnmfljpmpgnjaaGreatDoor

namespace Go.Proofs.YtcnmfljpmpgnjaaGreatDoor
open Go.RowKit Go.Maps
open Tm (H Ob Sl Why)

theorem framesT_any {S : Nat → Prop} {tag : Nat → Nat × Nat} {w : World} {a : Nat} {Y : PLay} {h : H} (r : PRep S tag w a Y h) :
    Calls Tryz.prog 59 #[.pointer (some ⟨Y.bt, 0, none⟩)] w fun e w' => e = .returned (.int .i64 h.frames) ∧ w' = w := by
  have c5 : w.cell? ⟨Y.bt, 5, none⟩ = some (.int .i64 h.frames) := (r.tab 1 (by omega) (by omega)).hf
  clear r
  go_enter Tryz.func59, Tryz.ntmps59
  go_wp2_with fail
  go_ret
  exact ⟨rfl, rfl⟩

/-- What 'Stats' reads, and where it writes. -/
structure StW (w w1 : World) (a bs bt n : Nat) : Prop where
  below : Below w.heap.size w w1
  c1 : w1.cell? ⟨a, 1, none⟩ = some (.pointer (some ⟨bs, 0, none⟩))
  c2 : w1.cell? ⟨a, 2, none⟩ = some (.pointer (some ⟨bt, 0, none⟩))
  cells : ∀ i, i < 6 → w1.cell? ⟨n, i, none⟩ = some (.int .i64 0)
  soft : ∀ i, w1.frozen? ⟨n, i, none⟩ = false
  lt : n < w1.heap.size
  al : a < w1.heap.size

theorem StW.on {w w1 w2 : World} {a bs bt n : Nat} (h : StW w w1 a bs bt n) (hb : Below w1.heap.size w1 w2) : StW w w2 a bs bt n :=
  ⟨h.below.trans (hb.mono h.below.size), by rw [hb.cell h.al]; exact h.c1, by rw [hb.cell h.al]; exact h.c2, fun i hi => by rw [hb.cell h.lt]; exact h.cells i hi, fun i => by rw [hb.frozen h.lt]; exact h.soft i, Nat.lt_of_lt_of_le h.lt hb.size, Nat.lt_of_lt_of_le h.al hb.size⟩

set_option maxRecDepth 100000 in
set_option maxHeartbeats 16000000 in
theorem statsH_any {S : Nat → Prop} {tag : Nat → Nat × Nat} {w : World} {a : Nat} {Y : PLay} {h : H} (r : PRep S tag w a Y h) :
    Calls Tryz.prog 21 #[.pointer (some ⟨a, 0, none⟩)] w fun e w' => e = .returned (.agg (stats6 h)) ∧ Below w.heap.size w w' := by
  have hal := r.lt _ r.sa.1
  have HS0 : Hid (StW w (w.alloc (.cells #[.int .i64 0, .int .i64 0, .int .i64 0, .int .i64 0, .int .i64 0, .int .i64 0] 44)).drew a Y.bs Y.bt w.heap.size) := by
    refine ⟨(Below.alloc0 w _).trans ((below_drew _).mono (by simp)), ?_, ?_, fun i hi => ?_, fun i => ?_, by simp, by simp; omega⟩
    · show (w.alloc _).cell? _ = _
      rw [World.cell?_alloc_lt _ _ _ hal]; exact r.store
    · show (w.alloc _).cell? _ = _
      rw [World.cell?_alloc_lt _ _ _ hal]; exact r.tables
    · show (w.alloc _).cell? _ = _
      rw [World.cell?_alloc_new]
      rcases (show i = 0 ∨ i = 1 ∨ i = 2 ∨ i = 3 ∨ i = 4 ∨ i = 5 by omega) with rfl | rfl | rfl | rfl | rfl | rfl <;> rfl
    · show (w.alloc _).frozen? _ = _
      exact World.frozen?_alloc_new _ _ _ _
  have HCn : Hid (∀ w1, StW w w1 a Y.bs Y.bt w.heap.size → Calls Tryz.prog 56 #[.pointer (some ⟨Y.bs, 0, none⟩)] w1 fun e w' => e = .returned (.int .i64 (Tm.countOf h.l)) ∧ StW w w' a Y.bs Y.bt w.heap.size) := fun w1 hs => by
    refine (count_any (r.below hs.below (Nat.le_refl _))).mono ?_
    rintro e w' ⟨rfl, rfl⟩
    exact ⟨rfl, hs⟩
  have HRm : Hid (∀ w1, StW w w1 a Y.bs Y.bt w.heap.size → Calls Tryz.prog 57 #[.pointer (some ⟨Y.bs, 0, none⟩)] w1 fun e w' => e = .returned (.int .i64 (Tm.roomOf h.l)) ∧ StW w w' a Y.bs Y.bt w.heap.size) := fun w1 hs => by
    refine (roomP_any (r.below hs.below (Nat.le_refl _))).mono ?_
    rintro e w' ⟨rfl, hb⟩
    exact ⟨rfl, hs.on hb⟩
  have HTk : ∀ k : Nat, 0 < k → k < 4 → ∀ w1, StW w w1 a Y.bs Y.bt w.heap.size → Calls Tryz.prog 58 #[.pointer (some ⟨Y.bt, 0, none⟩), .int .i64 (k : Int)] w1 fun e w' => e = .returned (.int .i64 (Tm.takenOf (h.t k))) ∧ StW w w' a Y.bs Y.bt w.heap.size := fun k k0 k4 w1 hs => by
    have hb := hs.below
    refine (taken_any ((r.below hb (Nat.le_refl _)).tab k k0 k4) k4 (r.good.tabs k) (fun b hs => Nat.lt_of_lt_of_le (r.lt b hs) hb.size) (Nat.lt_of_lt_of_le (r.lt _ r.st.1) hb.size)).mono ?_
    rintro e w' ⟨rfl, hb⟩
    exact ⟨rfl, hs.on hb⟩
  have HT1 := hide (HTk 1 (by omega) (by omega))
  have HT2 := hide (HTk 2 (by omega) (by omega))
  have HT3 := hide (HTk 3 (by omega) (by omega))
  have HFr : Hid (∀ w1, StW w w1 a Y.bs Y.bt w.heap.size → Calls Tryz.prog 59 #[.pointer (some ⟨Y.bt, 0, none⟩)] w1 fun e w' => e = .returned (.int .i64 h.frames) ∧ StW w w' a Y.bs Y.bt w.heap.size) := fun w1 hs => by
    refine (framesT_any (r.below hs.below (Nat.le_refl _))).mono ?_
    rintro e w' ⟨rfl, rfl⟩
    exact ⟨rfl, hs⟩
  unfold stats6
  have c1 : ∀ x, (w.alloc x).cell? ⟨a, 1, none⟩ = some (.pointer (some ⟨Y.bs, 0, none⟩)) := fun x => by rw [World.cell?_alloc_lt _ _ _ hal]; exact r.store
  have c2 : ∀ x, (w.alloc x).cell? ⟨a, 2, none⟩ = some (.pointer (some ⟨Y.bt, 0, none⟩)) := fun x => by rw [World.cell?_alloc_lt _ _ _ hal]; exact r.tables
  clear r HTk
  generalize Tm.countOf h.l = t0 at *
  generalize Tm.roomOf h.l = t1 at *
  generalize Tm.takenOf (h.t 1) = t2 at *
  generalize Tm.takenOf (h.t 2) = t3 at *
  generalize Tm.takenOf (h.t 3) = t4 at *
  generalize h.frames = t5 at *
  generalize Y.bs = bs at *
  generalize Y.bt = bt at *
  have hne : w.heap.size ≠ a := by omega
  clear hal
  go_enter Tryz.func21, Tryz.ntmps21
  go_wp2_with fail
  go_region_held3 (fun w' => w'.cell? ⟨a, 1, none⟩ = some (.pointer (some ⟨bs, 0, none⟩)) ∧ w'.cell? ⟨a, 2, none⟩ = some (.pointer (some ⟨bt, 0, none⟩))) (first | (with_reducible exact ⟨by assumption, by assumption⟩) | (refine ⟨?_, ?_⟩ <;> (repeat rw [World.cell?_setCell_other _ _ _ _ (fun e => hne (congrArg Addr.block e))]) <;> (with_reducible assumption)) | go_keep) (first
    | (go_at_call 56
       refine (HCn.out _ HS0.out).mono ?_
       rintro e w1 ⟨rfl, hs1⟩
       have p1 := hs1.c1
       have p2 := hs1.c2
       have HS1 := hide hs1
       clear hs1)
    | (go_at_call 57
       refine (HRm.out _ HS1.out).mono ?_
       rintro e w2 ⟨rfl, hs2⟩
       have q1 := hs2.c1
       have q2 := hs2.c2
       have HS2 := hide hs2
       clear hs2)
    | (go_at_call 58
       have _ := M2
       refine (HT3.out _ HS4.out).mono ?_
       rintro e w5 ⟨rfl, hs5⟩
       have x1 := hs5.c1
       have x2 := hs5.c2
       have HS5 := hide hs5
       clear hs5)
    | (go_at_call 58
       have _ := M1
       refine (HT2.out _ HS3.out).mono ?_
       rintro e w4 ⟨rfl, hs4⟩
       have u1 := hs4.c1
       have u2 := hs4.c2
       have HS4 := hide hs4
       have M2 : Hid True := trivial
       clear hs4)
    | (go_at_call 58
       refine (HT1.out _ HS2.out).mono ?_
       rintro e w3 ⟨rfl, hs3⟩
       have v1 := hs3.c1
       have v2 := hs3.c2
       have HS3 := hide hs3
       have M1 : Hid True := trivial
       clear hs3)
    | (go_at_call 59
       refine (HFr.out _ HS5.out).mono ?_
       rintro e w6 ⟨rfl, hs6⟩
       have y1 := hs6.c1
       have y2 := hs6.c2
       have z0 := hs6.cells 0 (by omega)
       have z1 := hs6.cells 1 (by omega)
       have z2 := hs6.cells 2 (by omega)
       have z3 := hs6.cells 3 (by omega)
       have z4 := hs6.cells 4 (by omega)
       have z5 := hs6.cells 5 (by omega)
       have f0 := hs6.soft 0
       have f1 := hs6.soft 1
       have f2 := hs6.soft 2
       have f3 := hs6.soft 3
       have f4 := hs6.soft 4
       have f5 := hs6.soft 5
       have HS6 := hide hs6
       clear hs6)
    | fail)
  all_goals go_wp2_with fail
  all_goals
    obtain ⟨W, eW⟩ : ∃ W, (((((w6.setCell ⟨w.heap.size, 0, none⟩ (.int .i64 t0)).setCell ⟨w.heap.size, 1, none⟩ (.int .i64 t1)).setCell ⟨w.heap.size, 2, none⟩ (.int .i64 t2)).setCell ⟨w.heap.size, 3, none⟩ (.int .i64 t3)).setCell ⟨w.heap.size, 4, none⟩ (.int .i64 t4)).setCell ⟨w.heap.size, 5, none⟩ (.int .i64 t5) = W := ⟨_, rfl⟩
    have off : ∀ {x y : Nat}, x ≠ y → (⟨w.heap.size, x, none⟩ : Addr) ≠ ⟨w.heap.size, y, none⟩ := fun h e => h (congrArg Addr.off e)
    have oth := fun (w' : World) (x y : Nat) (v : Value) (h : x ≠ y) => World.cell?_setCell_other w' ⟨w.heap.size, x, none⟩ ⟨w.heap.size, y, none⟩ v (off h)
    have k0 : W.cell? ⟨w.heap.size, 0, none⟩ = some (.int .i64 t0) := by rw [← eW, oth _ _ _ _ (by omega), oth _ _ _ _ (by omega), oth _ _ _ _ (by omega), oth _ _ _ _ (by omega), oth _ _ _ _ (by omega)]; exact World.cell?_setCell_same _ _ _ z0
    have k1 : W.cell? ⟨w.heap.size, 1, none⟩ = some (.int .i64 t1) := by rw [← eW, oth _ _ _ _ (by omega), oth _ _ _ _ (by omega), oth _ _ _ _ (by omega), oth _ _ _ _ (by omega)]; exact World.cell?_setCell_same _ _ _ (by rw [oth _ _ _ _ (by omega)]; exact z1)
    have k2 : W.cell? ⟨w.heap.size, 2, none⟩ = some (.int .i64 t2) := by rw [← eW, oth _ _ _ _ (by omega), oth _ _ _ _ (by omega), oth _ _ _ _ (by omega)]; exact World.cell?_setCell_same _ _ _ (by rw [oth _ _ _ _ (by omega), oth _ _ _ _ (by omega)]; exact z2)
    have k3 : W.cell? ⟨w.heap.size, 3, none⟩ = some (.int .i64 t3) := by rw [← eW, oth _ _ _ _ (by omega), oth _ _ _ _ (by omega)]; exact World.cell?_setCell_same _ _ _ (by rw [oth _ _ _ _ (by omega), oth _ _ _ _ (by omega), oth _ _ _ _ (by omega)]; exact z3)
    have k4 : W.cell? ⟨w.heap.size, 4, none⟩ = some (.int .i64 t4) := by rw [← eW, oth _ _ _ _ (by omega)]; exact World.cell?_setCell_same _ _ _ (by rw [oth _ _ _ _ (by omega), oth _ _ _ _ (by omega), oth _ _ _ _ (by omega), oth _ _ _ _ (by omega)]; exact z4)
    have k5 : W.cell? ⟨w.heap.size, 5, none⟩ = some (.int .i64 t5) := by rw [← eW]; exact World.cell?_setCell_same _ _ _ (by rw [oth _ _ _ _ (by omega), oth _ _ _ _ (by omega), oth _ _ _ _ (by omega), oth _ _ _ _ (by omega), oth _ _ _ _ (by omega)]; exact z5)
    have hbW : Below w.heap.size w W := by
      rw [← eW]
      exact (((((HS6.out.below.setCell (Nat.le_refl _) _).setCell (Nat.le_refl _) _).setCell (Nat.le_refl _) _).setCell (Nat.le_refl _) _).setCell (Nat.le_refl _) _).setCell (Nat.le_refl _) _
    rw [eW]
    clear eW
    refine bodyPost_ret (v := .agg #[.int .i64 t0, .int .i64 t1, .int .i64 t2, .int .i64 t3, .int .i64 t4, .int .i64 t5]) ?_ rfl ⟨rfl, hbW⟩
    simp [results, Tryz.results21, go_sem, k0, k1, k2, k3, k4, k5]
end Go.Proofs.YtcnmfljpmpgnjaaGreatDoor
