import Derived.Test.YtcnmfljpmpgnjaaGreatDoorJ22
import Derived.Test.YtcnmfljpmpgnjaaGreatDoorFFraF
import Derived.Test.YtcnmfljpmpgnjaaGreatDoorJ36
import Derived.Test.YtcnmfljpmpgnjaaGreatDoorJ19
import Derived.Test.YtcnmfljpmpgnjaaGreatDoorFFraE
namespace Go.Proofs.YtcnmfljpmpgnjaaGreatDoor
open Go.RowKit Go.Maps
open Tm (H Ob Sl Why)

def popRes (h : H) (n : Int) : (Int × Why) × H :=
  if n ≠ 0 ∧ h.popped.free 1 < 0 then ((0, ⟨7, 0⟩), h) else
  if n = 0 then ((0, Tm.fine), h.popF) else (((h.popF.take 1 n).1, Tm.fine), (h.popF.take 1 n).2)

theorem popT_any {S : Nat → Prop} {tag : Nat → Nat × Nat} {w : World} {a : Nat} {Y : PLay} {h : H} {N : Nat} {A : Nat → Addr} (hE : Errs N A w) (hS : ∀ b, S b → N ≤ b) (r : PRep S tag w a Y h) (hf1 : h.frames ≠ 1) (n : Int) (hn : 0 ≤ n) (hn2 : n ≤ (h.l.length : Int)) (ha : n ≠ 0 → (h.ob n).gone = false) :
    Calls Tryz.prog 75 #[.pointer (some ⟨Y.bt, 0, none⟩), .int .i64 n] w (TPopPost S w a A (popRes h n).1.1 (popRes h n).1.2 (popRes h n).2) := by
  have hfp : h.popped.free 1 = h.popF.free 1 := rfl
  unfold popRes
  by_cases h0 : n = 0
  · subst h0
    rw [if_neg (fun q => q.1 rfl), if_pos rfl]
    exact popT_zero r hf1
  · by_cases h1 : h.popped.free 1 < 0
    · rw [if_pos ⟨h0, h1⟩]
      exact popT_full hE hS r hf1 n (by omega) (by rw [← hfp]; exact h1)
    · rw [if_neg (fun q => h1 q.2), if_neg h0]
      exact popT_some hE hS r hf1 n (by omega) hn2 (ha h0) (by rw [← hfp]; omega)

set_option maxRecDepth 100000 in
set_option maxHeartbeats 2000000 in
theorem popH_any {S : Nat → Prop} {tag : Nat → Nat × Nat} {w : World} {a : Nat} {Y : PLay} {h : H} {N : Nat} {A : Nat → Addr} (hE : Errs N A w) (hS : ∀ b, S b → N ≤ b) (r : PRep S tag w a Y h) (x : Int) (hx : x < 9223372036854775808) :
    Calls Tryz.prog 39 #[.pointer (some ⟨a, 0, none⟩), .int .i64 x] w (HPost S w a A (h.pop x).1.1 (h.pop x).1.2 (h.pop x).2) := by
  have c2 := r.tables
  have g8 := hE.g8
  have hi := ifaceE
  have HF := hide (framesT_any r)
  have HN := hide (perhapsH_any hE r x hx)
  have HR := hide r
  have HE := hide hE
  by_cases hf1 : h.frames = 1
  · have e1 : h.pop x = ((0, ⟨9, 0⟩), h) := by unfold H.pop; rw [if_pos hf1]
    rw [e1]
    rw [hf1] at HF
    have HRf := hide (refusal_any (A := A) hE (InErr.bare w 9 (by omega) (by omega)))
    clear e1 r hE
    go_enter Tryz.func39, Tryz.ntmps39
    go_wp2_with (first
      | (go_at_call 59; refine HF.out.mono ?_; rintro e w9 ⟨rfl, hw⟩; replace hw := hw.symm; subst hw)
      | (go_at_call 50; refine HRf.out.mono ?_; rintro e w' ⟨ev, rfl, he, hb⟩; have HEr := hide he; have HB := hide hb; clear he hb)
      | fail)
    go_ret2
    exact ⟨_, S, rfl, HEr.out, ⟨tag, Y, HR.out.below HB.out (Nat.le_refl _)⟩, Kept.of_below HB.out, fun _ h => h, fun _ h => Or.inl h⟩
  · have hf1' : (h.frames == 1) = false := beq_eq_false_iff_ne.2 hf1
    by_cases hc : (h.perhaps x).2.reason = 0
    · have HHc := hide hc
      obtain ⟨b1, b2, b3⟩ := perhaps_bdG r.good x hc
      have e1 : h.pop x = popRes h (h.perhaps x).1 := by unfold H.pop popRes; rw [if_neg hf1, if_neg (by simpa using hc)]
      rw [e1]
      have HP := hide (popT_any (A := A) hE hS r hf1 (h.perhaps x).1 b1 b2 b3)
      clear e1 r hE hc b1 b2 b3
      generalize popRes h (h.perhaps x).1 = pr at *
      obtain ⟨y, ey⟩ : ∃ y, h.perhaps x = y := ⟨_, rfl⟩
      rw [ey] at HN HHc HP
      clear ey
      generalize h.frames = f at *
      go_enter Tryz.func39, Tryz.ntmps39
      go_wp2_with (first
        | (go_at_call 59; refine HF.out.mono ?_; rintro e w9 ⟨rfl, hw⟩; replace hw := hw.symm; subst hw)
        | (go_at_call 74; refine HN.out.mono ?_; rintro e w9 ⟨ev, rfl, _, _, hz, _⟩; obtain ⟨rfl, hw⟩ := hz HHc.out; replace hw := hw.symm; subst hw)
        | (go_at_call 75
           refine HP.out.mono ?_
           rintro e w2 ⟨ev2, S2, rfl, he2, hp2, hk2, hs2, hn2⟩
           have HRf := hide (refusal_any (HE.out.off hk2 hS) he2)
           have HP2 := hide hp2
           have HK2 := hide hk2
           have HS2 := hide hs2
           have HN2 := hide hn2
           clear he2 hp2 hk2 hs2 hn2)
        | (go_at_call 50; refine HRf.out.mono ?_; rintro e w' ⟨ev, rfl, he, hb⟩; have HEr := hide he; have HB := hide hb; clear he hb)
        | fail)
      go_ret2
      exact ⟨_, S2, rfl, HEr.out.mono HK2.out.size, (by obtain ⟨t2, Y2, q⟩ := HP2.out; exact ⟨t2, Y2, q.below HB.out (Nat.le_refl _)⟩), HK2.out.trans (Kept.of_below HB.out), HS2.out, HN2.out⟩
    · have HHc := hide hc
      have e1 : h.pop x = ((0, (h.perhaps x).2), h) := by unfold H.pop; rw [if_neg hf1, if_pos (by simpa using hc)]
      rw [e1]
      clear e1 r hE hc
      obtain ⟨y, ey⟩ : ∃ y, h.perhaps x = y := ⟨_, rfl⟩
      simp only [ey] at HN HHc ⊢
      clear ey
      generalize h.frames = f at *
      go_enter Tryz.func39, Tryz.ntmps39
      go_wp2_with (first
        | (go_at_call 59; refine HF.out.mono ?_; rintro e w9 ⟨rfl, hw⟩; replace hw := hw.symm; subst hw)
        | (go_at_call 74
           refine HN.out.mono ?_
           rintro e w1 ⟨ev, rfl, he1, hb1, _, hz⟩
           obtain ⟨b, rfl⟩ := hz HHc.out
           have HB1 := hide hb1
           have HRf := hide (refusal_any (HE.out.kept hb1) he1)
           clear hb1 he1 hz)
        | (go_at_call 50; refine HRf.out.mono ?_; rintro e w' ⟨ev, rfl, he, hb⟩; have HEr := hide he; have HB := hide hb; clear he hb)
        | fail)
      go_ret2
      have hb2 := HB1.out.trans (HB.out.mono HB1.out.size)
      exact ⟨_, S, rfl, HEr.out.mono HB1.out.size, ⟨tag, Y, HR.out.below hb2 (Nat.le_refl _)⟩, Kept.of_below hb2, fun _ h => h, fun _ h => Or.inl h⟩
end Go.Proofs.YtcnmfljpmpgnjaaGreatDoor

namespace Go.Proofs.YtcnmfljpmpgnjaaGreatDoor
open Go.RowKit Go.Maps
open Tm (H Ob Sl Why)

theorem prog_all (N : Nat) (A : Nat → Addr) : ProgAll PR N A where
  ok := prog_ok N A
  push := fun _ _ _ _ ⟨_, _, r⟩ hE _ => (pushH_any hE r).mono fun _ _ q => q.toR
  pop := fun _ _ _ _ x ⟨_, _, r⟩ hE hS hx => popH_any hE hS r x hx
  pin := fun _ _ _ _ x ⟨_, _, r⟩ hE hS hx => (pinH_any hE hS r x hx).mono fun _ _ q => q.toR
  unpin := fun _ _ _ _ x ⟨_, _, r⟩ hE hS hx => (unpinH_any hE hS r x hx).mono fun _ _ q => q.toR
end Go.Proofs.YtcnmfljpmpgnjaaGreatDoor

namespace Go.Proofs.YtcnmfljpmpgnjaaGreatDoor
open Go.RowKit
open Tm (H Ob Sl Why)

/-- What a call that is refused leaves: the heap's own blocks are as many as they were. -/
def FPostR (R : (Nat → Prop) → World → Nat → H → Prop) (S : Nat → Prop) (w : World) (a : Nat) (A : Nat → Addr) (y : Why) (h : H) (e : Ending) (w' : World) : Prop :=
  ∃ ev, e = .returned (.tuple #[.int .i64 0, ev]) ∧ ErrIn A w.heap.size w' ev y ∧ R S w' a h ∧ Kept S w w'
/-- .. that answers an error alone. -/
def GPostR (R : (Nat → Prop) → World → Nat → H → Prop) (S : Nat → Prop) (w : World) (a : Nat) (A : Nat → Addr) (y : Why) (h : H) (e : Ending) (w' : World) : Prop :=
  ∃ ev, e = .returned ev ∧ ErrIn A w.heap.size w' ev y ∧ R S w' a h ∧ Kept S w w'

/-- Every call with a number that is no handle. -/
structure FailOK (R : (Nat → Prop) → World → Nat → H → Prop) (N : Nat) (A : Nat → Addr) : Prop where
  get : ∀ S w p h x i, R S w p h → Errs N A w → (∀ b, S b → N ≤ b) → x < 9223372036854775808 → (h.of x).2.reason ≠ 0 → Calls Tryz.prog 41 #[.pointer (some ⟨p, 0, none⟩), .int .i64 x, .int .i64 i] w (FPostR R S w p A (h.of x).2 h)
  follow : ∀ S w p h x i, R S w p h → Errs N A w → (∀ b, S b → N ≤ b) → x < 9223372036854775808 → (h.of x).2.reason ≠ 0 → Calls Tryz.prog 42 #[.pointer (some ⟨p, 0, none⟩), .int .i64 x, .int .i64 i] w (FPostR R S w p A (h.of x).2 h)
  ref : ∀ S w p h k x, R S w p h → Errs N A w → (∀ b, S b → N ≤ b) → x < 9223372036854775808 → (h.of x).2.reason ≠ 0 → Tm.inR k 1 3 = true → Calls Tryz.prog 17 #[.pointer (some ⟨p, 0, none⟩), .int .i64 k, .int .i64 x] w (FPostR R S w p A (h.of x).2 h)
  set : ∀ S w p h x i v, R S w p h → Errs N A w → (∀ b, S b → N ≤ b) → x < 9223372036854775808 → (h.of x).2.reason ≠ 0 → Calls Tryz.prog 36 #[.pointer (some ⟨p, 0, none⟩), .int .i64 x, .int .i64 i, .int .i64 v] w (GPostR R S w p A (h.of x).2 h)
  point : ∀ S w p h x i z, R S w p h → Errs N A w → (∀ b, S b → N ≤ b) → x < 9223372036854775808 → z < 9223372036854775808 → (h.of x).2.reason ≠ 0 → Calls Tryz.prog 43 #[.pointer (some ⟨p, 0, none⟩), .int .i64 x, .int .i64 i, .int .i64 z] w (GPostR R S w p A (h.of x).2 h)
  free : ∀ S w p h x, R S w p h → Errs N A w → (∀ b, S b → N ≤ b) → x < 9223372036854775808 → (h.of x).2.reason ≠ 0 → Calls Tryz.prog 23 #[.pointer (some ⟨p, 0, none⟩), .int .i64 x] w (GPostR R S w p A (h.of x).2 h)
  pin : ∀ S w p h x, R S w p h → Errs N A w → (∀ b, S b → N ≤ b) → x < 9223372036854775808 → (h.of x).2.reason ≠ 0 → Calls Tryz.prog 34 #[.pointer (some ⟨p, 0, none⟩), .int .i64 x] w (GPostR R S w p A (h.of x).2 h)
  unpin : ∀ S w p h x, R S w p h → Errs N A w → (∀ b, S b → N ≤ b) → x < 9223372036854775808 → (h.of x).2.reason ≠ 0 → Calls Tryz.prog 35 #[.pointer (some ⟨p, 0, none⟩), .int .i64 x] w (GPostR R S w p A (h.of x).2 h)
theorem object_fail {h : H} {x : Int} (hx : (h.of x).2.reason ≠ 0) : h.object x = h.of x := by unfold Tm.H.object; rw [if_neg (fun q => hx q.1)]
end Go.Proofs.YtcnmfljpmpgnjaaGreatDoor

namespace Go.Proofs.YtcnmfljpmpgnjaaGreatDoor
open Go.RowKit
open Tm (H Ob Sl Why GD Gh LayD)

set_option maxRecDepth 100000 in
set_option maxHeartbeats 2000000 in
theorem kamong_o (w : World) (p : Option Addr) (c : Nat) (l : List Int) (n : Nat) (hn : l.length = n) (hl : n ≤ 4398046511104) (x : Int) (h1 : 0 < l.length → ∃ g o, p = some ⟨g, o, none⟩ ∧ ∀ i, i < l.length → w.cell? ⟨g, o + i, none⟩ = some (.int .i64 (l.getD i 0))) :
    Calls Tryz.prog 28 #[.slice p n c, .int .i64 x] w fun e w' => e = .returned (.bool (decide (x ∈ l))) ∧ w' = w := by
  subst hn
  have H1 := hide h1
  clear h1
  go_enter Tryz.func28, Tryz.ntmps28
  go_wp2_with fail
  go_loop [5] (fun iv => ∃ i : Nat, i ≤ l.length ∧ iv = .int .i64 i ∧ Hid (x ∉ l.take i)) (fun iv => l.length - (intOf iv).toNat)
  case atStart => exact ⟨0, by omega, rfl, by show _ ∉ _; simp⟩
  case round =>
    obtain ⟨i, hi, rfl, HX⟩ := hrel
    by_cases hlt : i < l.length
    · have bi : (i : Int) < (l.length : Int) := by omega
      obtain ⟨g1, o1, rfl, k1⟩ := H1.out (by omega)
      have c1 := k1 i hlt
      have HT : Hid (l.take (i + 1) = l.take i ++ [l.getD i 0]) := Tm.take_getD l 0 i hlt
      have HM : Hid (l.getD i 0 ∈ l) := Tm.getD_mem l 0 i hlt
      clear k1 H1
      generalize l.getD i 0 = y at *
      by_cases hy : y = x
      · subst hy
        go_wp2_with fail
        go_ret
        exact ⟨ret_bool (by simp [HM.out]), rfl⟩
      · go_wp2_with fail
        go_round
        case rel => exact ⟨i + 1, by omega, by go_num, fun q => by
          rw [HT.out] at q
          rcases List.mem_append.1 q with q | q
          · exact HX.out q
          · have e : x = y := by simpa using q
            exact hy e.symm⟩
        case measure => simp [intOf]; omega
    · have bi : ¬ (i : Int) < (l.length : Int) := by omega
      have HN : Hid (x ∉ l) := by
        have := HX.out
        rw [List.take_of_length_le (by omega)] at this
        exact this
      go_wp2_with fail
      go_ret
      exact ⟨ret_bool (by simp [HN.out]), rfl⟩

theorem cells3k : Tryz.prog.cellsOf 3 = 1 := by kernel_rfl
theorem eql_sixK (w : World) (s0 s1 s2 s3 s4 s5 : Int) : (binOp .eql 44 (.agg #[.int .i64 s0, .int .i64 s1, .int .i64 s2, .int .i64 s3, .int .i64 s4, .int .i64 s5]) (.agg #[.int .i64 s0, .int .i64 s1, .int .i64 s2, .int .i64 s3, .int .i64 s4, .int .i64 s5])).run Tryz.prog w = .ok (.bool true) w := by
  obtain ⟨i3, hi3, hz0, hz1, _⟩ := info_parts info3
  have he : Tryz.prog.plainKey 3 = true := by kernel_rfl
  have hp : ∀ (xs : Array Value) (i : Nat) (u : Value), xs[i]? = some u → (part 3 xs i).run Tryz.prog w = .ok u w := fun xs i u h => run_part_plain w he h
  have hq0 : ∀ (d : Nat) (s : Int), (Op.equalIn (d + 1) 3 (.int .i64 s) (.int .i64 s)).run Tryz.prog w = .ok true w := fun d s => by
    simp [Op.equalIn, run_underlying Tryz.underlying3]
  have hq : ∀ s : Int, (Op.equalIn 9999 3 (.int .i64 s) (.int .i64 s)).run Tryz.prog w = .ok true w := fun s => hq0 9998 s
  simp only [binOp]
  simp only [Op.equal, Op.maxDepth, Sem.run_bind]
  rw [run_equalIn_array w 9999 _ _ Tryz.underlying44 hi3, cells3k]
  have g : ∀ i u, (#[.int .i64 s0, .int .i64 s1, .int .i64 s2, .int .i64 s3, .int .i64 s4, .int .i64 s5] : Array Value)[i]? = some u → (part 3 #[.int .i64 s0, .int .i64 s1, .int .i64 s2, .int .i64 s3, .int .i64 s4, .int .i64 s5] i).run Tryz.prog w = .ok u w := fun i u h => hp _ i u h
  simp [List.range, List.range.loop, Op.eqItems, g 0 _ rfl, g 1 _ rfl, g 2 _ rfl, g 3 _ rfl, g 4 _ rfl, g 5 _ rfl, hq, Result.andThen]


theorem handle_any (A : Nat → Addr) (w : World) (v : Value) (y : Why) (h : ErrIs A w v y) (h0 : y.reason ≠ 0) :
    Calls Tryz.prog 44 #[v] w fun e w' => e = .returned (.int .i64 y.handle) ∧ w' = w := by
  rcases h with ⟨q, _⟩ | ⟨n, fb, h1, h2, h3, rfl, h5, h6, h7⟩
  · exact absurd q h0
  · have hta := fun w' => run_typeAssert_ptr (P := Tryz.prog) w' 101 37 _ (.pointer (some ⟨fb, 0, none⟩)) Tryz.underlying101
    go_enter Tryz.func44, Tryz.ntmps44
    go_wp2_with fail
    go_ret
    exact ⟨rfl, rfl⟩

/-- An error of a call that was made from w0 on. -/
def ErrAt (A : Nat → Addr) (w0 w : World) (ev : Value) (y : Why) : Prop := ErrIs A w ev y ∧ ∀ b, ev = .iface 101 (.pointer (some ⟨b, 0, none⟩)) → w0.heap.size ≤ b
theorem ErrAt.next {A : Nat → Addr} {w0 w w' : World} {ev : Value} {y : Why} {S : Nat → Prop} (h : ErrAt A w0 w ev y) (hS : ∀ b, S b → b < w0.heap.size) (hk : Kept S w w') : ErrAt A w0 w' ev y :=
  ⟨h.1.off hk (fun b e q => by have := h.2 b e; have := hS b q; omega), h.2⟩
theorem ErrIn.at {A : Nat → Addr} {w0 w w' : World} {ev : Value} {y : Why} (h : ErrIn A w.heap.size w' ev y) (hz : w0.heap.size ≤ w.heap.size) : ErrAt A w0 w' ev y := ⟨h.1, fun b e => Nat.le_trans hz (h.2 b e)⟩

namespace Tm
/-- What is no handle any more. -/
theorem forged_of {h : H} {d : GD} {n : Nat} (l : LayD d 0 n) (g : Gh h { d with lo := up d.lo 0 0 }) (x : Int) (h1 : ∀ j, 1 ≤ j → j < n → x ≠ hand 1 j (lg j)) (h2 : ∀ j, j < n → x ≠ hand 3 j 1) : ∃ y, h.of x = (0, ⟨y, x⟩) ∧ (x = 0 → y = 2) ∧ (x ≠ 0 → y = 3 ∨ y = 4) := by
  refine g.none x (fun s hs h0 => ?_) (fun s hs => l.gl s) (fun s hs => h2 s (by have := l.nw; have hs' : s < d.nw := hs; omega))
  have h0' : up d.lo 0 0 s ≠ 0 := h0
  rcases Nat.eq_zero_or_pos s with rfl | q
  · rw [up_at] at h0'; exact absurd rfl h0'
  · rw [up_ne _ _ _ _ (by omega)] at h0'
    have hsn : s < n := by
      rcases Nat.lt_or_ge s n with q2 | q2
      · exact q2
      · exact absurd (l.lo2 s (by omega) hs) h0'
    have e := l.ge1 s hsn
    rw [Nat.zero_add] at e
    show x ≠ hand 1 s (d.ge s)
    rw [e]; exact h1 s q hsn
end Tm

section
variable {R : (Nat → Prop) → World → Nat → H → Prop} {N : Nat} {A : Nat → Addr}
/-- Between the refused calls. -/
structure Fs (R : (Nat → Prop) → World → Nat → H → Prop) (N : Nat) (A : Nat → Addr) (S : Nat → Prop) (w0 : World) (p : Nat) (h : H) (w : World) : Prop where
  r : R S w p h
  errs : Errs N A w
  kept : Kept S w0 w
theorem Fs.next {S : Nat → Prop} {w0 w w' : World} {p : Nat} {h : H} (f : Fs R N A S w0 p h w) (hN : ∀ b, S b → N ≤ b) (hr : R S w' p h) (hk : Kept S w w') : Fs R N A S w0 p h w' := ⟨hr, f.errs.off' hk hN, f.kept.trans hk⟩
end
end Go.Proofs.YtcnmfljpmpgnjaaGreatDoor
