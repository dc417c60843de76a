import Derived.Test.YtcnmfljpmpgnjaaGreatDoorJ19
import Derived.Laws.CopyOwn
import Derived.Test.YtcnmfljpmpgnjaaGreatDoorJ17
namespace Go.Proofs.YtcnmfljpmpgnjaaGreatDoor
open Go.RowKit

set_option maxRecDepth 100000 in
set_option maxHeartbeats 2000000 in
/-- slices.Repeat of one number. -/
theorem repeat_one (w : World) (k : Int) (n b o c : Nat) (hn1 : 1 ≤ n) (hn : n ≤ 32) (hx : w.cell? ⟨b, o, none⟩ = some (.int .i64 k)) (hb : b < w.heap.size) :
    Calls Tryz.prog 166 #[.slice (some ⟨b, o, none⟩) 1 c, .int .i64 (n : Int)] w fun e w' => e = .returned (.slice (some ⟨w.heap.size, 0, none⟩) n n) ∧ Below w.heap.size w w' ∧ w'.heap.size = w.heap.size + 1 ∧ w'.heap[w.heap.size]? = some (.cells (repRow k n n) 3 (0, 0)) := by
  have HM := hide (mul_one w n hn)
  have e0 : ¬ (n : Int) < 0 := by omega
  have hm : madeCells #[Value.int .i64 0] n = repRow k 0 n := by
    apply Array.ext_getElem?
    intro i
    simp only [madeCells, repRow, List.replicate_zero, List.nil_append, Nat.sub_zero, List.getElem?_toArray, List.getElem?_replicate]
    by_cases h : i < n <;> simp [h, Nat.mod_one]
  have hmk := fun w' => make_ints w' n (by omega)
  rw [hm] at hmk
  have hx1 : (w.alloc (.cells (repRow k 0 n) 3)).cell? ⟨b, o, none⟩ = some (.int .i64 k) := by
    rw [World.cell?_of_block (heap_alloc_old _ _ hb)]; exact hx
  have hcp := rep_first (w.alloc (.cells (repRow k 0 n) 3)) k w.heap.size n n c b o hn1 (heap_alloc_new _ _) hx1 3
  clear hm
  go_enter Tryz.func166, Tryz.ntmps166
  go_wp2_with fail
  refine HM.out.mono ?_
  rintro e w9 ⟨rfl, h9⟩
  rw [h9]
  clear h9
  go_wp2_with fail
  go_loopw [8] (fun mv w' => ∃ m : Nat, 1 ≤ m ∧ m ≤ n ∧ mv = .int .i64 m ∧ w'.heap[w.heap.size]? = some (.cells (repRow k m n) 3 (0, 0)) ∧ Below w.heap.size w w' ∧ w'.heap.size = w.heap.size + 1) (fun mv _ => n - (intOf mv).toNat)
  case atStart =>
    refine ⟨1, by omega, hn1, rfl, ?_, ?_, ?_⟩
    · exact setRow_heap _ _ _ _ _ _ (heap_alloc_new w (.cells (repRow k 0 n) 3))
    · exact below_setRow (Below.alloc0 _ _) (Nat.le_refl _) _
    · simp [World.setRow]
  case round =>
    obtain ⟨m, h1, h2, rfl, hg, hbl, hsz⟩ := hrel
    by_cases hlt : m < n
    · have bi : (m : Int) < (n : Int) := by omega
      have hc2 := rep_copy (World.drew _) k w.heap.size m n (n - m) n h2 hg 3
      have HG := hide hg
      clear hg hcp hmk
      have hmin : Nat.min m (n - m) ≤ n - m := Nat.min_le_right _ _
      have hmin1 : 1 ≤ Nat.min m (n - m) := Nat.le_min.2 ⟨h1, by omega⟩
      generalize Nat.min m (n - m) = q at *
      go_wp2_with fail
      go_region
      go_wp2_with fail
      refine ⟨⟨m + q, by omega, by omega, rfl, ?_, ?_, ?_⟩, by simp [intOf]; omega⟩
      · exact setRow_heap _ _ _ _ _ _ HG.out
      · exact below_setRow (w := World.drew _) ⟨hbl.os, hbl.tape, hbl.output, hbl.size, hbl.block⟩ (Nat.le_refl _) _
      · simp [World.setRow]; exact hsz
    · obtain rfl : m = n := by omega
      have bi : ¬ (m : Int) < (m : Int) := by omega
      have HR := hide (And.intro hbl (And.intro hsz hg))
      clear hg hcp hmk
      go_wp2_with fail
      go_ret
      exact ⟨rfl, HR.out⟩

set_option maxRecDepth 100000 in
/-- slices.Repeat of one number, none of it. -/
theorem repeat_zero (w : World) (b o c : Nat) :
    Calls Tryz.prog 166 #[.slice (some ⟨b, o, none⟩) 1 c, .int .i64 0] w fun e w' => e = .returned (.slice (some ⟨w.heap.size, 0, none⟩) 0 0) ∧ w' = w.alloc (.cells #[] 3) := by
  have HM := hide (mul_one w 0 (by omega))
  obtain ⟨i, hi, hz, hs, hb⟩ := info_parts info3
  have hm : madeCells #[Value.int .i64 0] 0 = #[] := by simp [madeCells]
  have hmk : ∀ w', (Instr.makeSlice 24 (.int .i64 0) (.int .i64 0)).run Tryz.prog w' = .ok (.slice (some ⟨w'.heap.size, 0, none⟩) 0 0) (w'.alloc (.cells #[] 3)) := fun w' => by
    have := make_ints w' 0 (by omega)
    rw [hm] at this
    exact this
  have hcp := run_copy_none (P := Tryz.prog) (w.alloc (.cells #[] 3)) 24 24 3 3 (some ⟨w.heap.size, 0, none⟩) (some ⟨b, o, none⟩) 0 0 1 c Tryz.underlying24 (by rw [hi]; simp [hs]) rfl
  clear hm hi hz hs hb
  go_enter Tryz.func166, Tryz.ntmps166
  go_wp2_with fail
  refine HM.out.mono ?_
  rintro e w9 ⟨rfl, h9⟩
  rw [h9]
  clear h9
  go_wp2_with fail
  refine wp_loop_rounds 1 ?_
  rw [rounds_succ]
  go_wp2_with fail
  go_ret
  exact ⟨rfl, rfl⟩
end Go.Proofs.YtcnmfljpmpgnjaaGreatDoor

namespace Go.Proofs.YtcnmfljpmpgnjaaGreatDoor
open Go.RowKit Go.Maps
open Tm (H Ob Sl Why)

/-- 'add' of an object that was made just before. -/
theorem add_after {S : Nat → Prop} {tag : Nat → Nat × Nat} {w w1 : World} {a : Nat} {Y : PLay} {h : H} {N : Nat} {A : Nat → Addr} (hE : Errs N A w) (hS : ∀ b, S b → N ≤ b) (r : PRep S tag w a Y h) (M : List Bool) (hM : Tm.Marked h M) (ks : List Int) (nm : Int) (x fb : Nat) (bl : BlankAt w w1 x fb ks nm) (hl : ks.length ≤ 32) (hk : ∀ q, q < ks.length → ks.getD q 0 = 1 ∨ ks.getD q 0 = 2) (hnm : nm = -1 ∨ (0 ≤ nm ∧ nm ≤ 1000000000)) (hm : h.l.length + 1 < 4398046511104) :
    Calls Tryz.prog 61 #[.pointer (some ⟨a, 0, none⟩), .pointer (some ⟨x, 0, none⟩)] w1 (HPost S w a A (h.makeBy M ks nm).1.1 (h.makeBy M ks nm).1.2 (h.makeBy M ks nm).2) := by
  have hlo := bl.lo
  have hz := bl.below.size
  refine (addH_any (hE.kept bl.below) hS (r.below bl.below (Nat.le_refl _)) M hM ks nm x fb bl.at' (fun q => by have := r.lt _ q; omega) (fun q => by have := r.lt _ q; omega) bl.ne bl.hi.1 bl.hi.2 bl.soft hl hk hnm hm).mono ?_
  rintro e w' ⟨ev, S', rfl, q1, q2, q3, q4, q5⟩
  refine ⟨ev, S', rfl, q1.mono hz, q2, ⟨q3.os.trans bl.below.os, q3.tape.trans bl.below.tape, q3.output.trans bl.below.output, Nat.le_trans hz q3.size, fun k hk hn => ?_⟩, q4, fun b hb => ?_⟩
  · rw [q3.block k (by omega) (by rintro (q | q | q); exact hn q; omega; omega)]
    exact bl.below.block k hk
  · rcases q5 b hb with q | q | q | q
    · exact Or.inl q
    · exact Or.inr (by omega)
    · exact Or.inr (by omega)
    · exact Or.inr (by omega)

theorem BlankAt.after {w w0 w1 : World} {x fb : Nat} {ks : List Int} {nm : Int} (b : BlankAt w0 w1 x fb ks nm) (h : Below w.heap.size w w0) : BlankAt w w1 x fb ks nm :=
  ⟨h.trans (b.below.mono h.size), ⟨Nat.le_trans h.size b.lo.1, Nat.le_trans h.size b.lo.2⟩, b.hi, b.ne, b.at', b.soft⟩

set_option maxRecDepth 100000 in
set_option maxHeartbeats 4000000 in
theorem makeH_any {S : Nat → Prop} {tag : Nat → Nat × Nat} {w : World} {a : Nat} {Y : PLay} {h : H} {N : Nat} {A : Nat → Addr} (hE : Errs N A w) (hS : ∀ b, S b → N ≤ b) (r : PRep S tag w a Y h) (M : List Bool) (hM : Tm.Marked h M) (c : Int) (hm : h.l.length + 1 < 4398046511104) (hc0 : 0 < h.classes.length) :
    Calls Tryz.prog 25 #[.pointer (some ⟨a, 0, none⟩), .int .i64 c] w (HPost S w a A (h.ofClass M c).1.1 (h.ofClass M c).1.2 (h.ofClass M c).2) := by
  obtain ⟨cp, cc, k1, k2⟩ := r.classes
  have hfew := r.good.few
  obtain ⟨rfl, hSc, htc⟩ := k2 hc0
  have hi := ifaceE
  have g0 := hE.g0
  have HW := fun w' => within_any c 0 ((h.classes.length : Int) - 1) w' (by omega)
  have HR := hide r
  cases hk : Tm.inR c 0 ((h.classes.length : Int) - 1)
  · have e1 : h.ofClass M c = ((0, ⟨1, 0⟩), h) := by unfold H.ofClass H.isClass; rw [hk]; rfl
    rw [e1]
    simp only [hk] at HW
    have HW := fun w' => hide (HW w')
    have HRf := hide (refusal_any (A := A) hE (InErr.bare w 1 (by omega) (by omega)))
    clear e1 r hE hk
    generalize h.classes.length = L at *
    go_enter Tryz.func25, Tryz.ntmps25
    go_wp2_with (first
      | (go_at_call 49; refine ((HW _).out).mono ?_; rintro e w' ⟨rfl, rfl⟩)
      | (go_at_call 50; refine HRf.out.mono ?_; rintro e w' ⟨ev, rfl, he, hb⟩; have HEr := hide he; have HB := hide hb; clear he hb)
      | fail)
    go_ret2
    exact ⟨_, S, rfl, HEr.out, ⟨tag, Y, HR.out.below HB.out (Nat.le_refl _)⟩, Kept.of_below HB.out, fun _ h => h, fun _ h => Or.inl h⟩
  · have hk' : 0 ≤ c ∧ c ≤ (h.classes.length : Int) - 1 := by simpa [Tm.inR] using hk
    obtain ⟨q, rfl⟩ : ∃ q : Nat, c = (q : Int) := ⟨c.toNat, by omega⟩
    have hq : q < h.classes.length := by omega
    have e1 : h.ofClass M (q : Int) = h.makeBy M (h.classes.getD q []) (-1) := by
      unfold H.ofClass H.isClass H.kindsOf; rw [hk, if_pos rfl, Int.toNat_natCast]
    rw [e1]
    obtain ⟨z1, v, z2, z3⟩ := r.clas q hq
    have hcls := r.good.cls q hq
    have HBk := hide (blankO_any (S := S) w v (Y.cb q) (h.classes.getD q []) r.lt z3 (by have := hcls.1; omega))
    have HAd : Hid (∀ w1, BlankAt w w1 (w.heap.size + 1) w.heap.size (h.classes.getD q []) (-1) → Calls Tryz.prog 61 #[.pointer (some ⟨a, 0, none⟩), .pointer (some ⟨w.heap.size + 1, 0, none⟩)] w1 (HPost S w a A (h.makeBy M (h.classes.getD q []) (-1)).1.1 (h.makeBy M (h.classes.getD q []) (-1)).1.2 (h.makeBy M (h.classes.getD q []) (-1)).2)) := fun w1 bl =>
      add_after hE hS r M hM _ (-1) _ _ bl (by have := hcls.1; omega) hcls.2 (Or.inl rfl) hm
    simp only [hk] at HW
    have HW := fun w' => hide (HW w')
    have b1 : (q : Int) < (h.classes.length : Int) := by omega
    clear e1 r hE hk z1 z3 hcls
    generalize h.classes.length = L at *
    generalize h.makeBy M (h.classes.getD q []) (-1) = mk at *
    generalize h.classes.getD q [] = kq at *
    go_enter Tryz.func25, Tryz.ntmps25
    go_wp2_with (first
      | (go_at_call 49; refine ((HW _).out).mono ?_; rintro e w' ⟨rfl, hw⟩; replace hw := hw.symm; subst hw)
      | (go_at_call 62; refine HBk.out.mono ?_; rintro e w1 ⟨rfl, bl⟩; have HA1 := hide (HAd.out w1 bl); clear bl)
      | (go_at_call 61; refine HA1.out.mono ?_; rintro e w' ⟨ev, S', rfl, hq⟩; have HQ := hide hq; clear hq)
      | fail)
    go_ret2
    exact ⟨_, S', rfl, HQ.out⟩

set_option maxRecDepth 100000 in
set_option maxHeartbeats 4000000 in
theorem externH_any {S : Nat → Prop} {tag : Nat → Nat × Nat} {w : World} {a : Nat} {Y : PLay} {h : H} {N : Nat} {A : Nat → Addr} (hE : Errs N A w) (hS : ∀ b, S b → N ≤ b) (r : PRep S tag w a Y h) (M : List Bool) (hM : Tm.Marked h M) (n : Int) (hm : h.l.length + 1 < 4398046511104) :
    Calls Tryz.prog 31 #[.pointer (some ⟨a, 0, none⟩), .int .i64 n] w (HPost S w a A (h.extern M n).1.1 (h.extern M n).1.2 (h.extern M n).2) := by
  have hi := ifaceE
  have g0 := hE.g0
  have HW := fun w' => within_any n 0 1000000000 w' (by omega)
  have HR := hide r
  cases hk : Tm.inR n 0 1000000000
  · have e1 : h.extern M n = ((0, ⟨1, 0⟩), h) := by unfold H.extern; rw [hk]; rfl
    rw [e1]
    simp only [hk] at HW
    have HW := fun w' => hide (HW w')
    have HRf := hide (refusal_any (A := A) hE (InErr.bare w 1 (by omega) (by omega)))
    clear e1 r hE hk
    go_enter Tryz.func31, Tryz.ntmps31
    go_wp2_with (first
      | (go_at_call 49; refine ((HW _).out).mono ?_; rintro e w' ⟨rfl, rfl⟩)
      | (go_at_call 50; refine HRf.out.mono ?_; rintro e w' ⟨ev, rfl, he, hb⟩; have HEr := hide he; have HB := hide hb; clear he hb)
      | fail)
    go_ret2
    exact ⟨_, S, rfl, HEr.out, ⟨tag, Y, HR.out.below HB.out (Nat.le_refl _)⟩, Kept.of_below HB.out, fun _ h => h, fun _ h => Or.inl h⟩
  · have hk' : 0 ≤ n ∧ n ≤ 1000000000 := by simpa [Tm.inR] using hk
    have e1 : h.extern M n = h.makeBy M [] n := by unfold H.extern; rw [hk, if_pos rfl]
    rw [e1]
    have HBk := hide (named_any w n hk'.1)
    have HAd : Hid (∀ w1, BlankAt w w1 w.heap.size w.heap.size [] n → Calls Tryz.prog 61 #[.pointer (some ⟨a, 0, none⟩), .pointer (some ⟨w.heap.size, 0, none⟩)] w1 (HPost S w a A (h.makeBy M [] n).1.1 (h.makeBy M [] n).1.2 (h.makeBy M [] n).2)) := fun w1 bl =>
      add_after hE hS r M hM _ n _ _ bl (by simp) (fun q hq => by simp at hq) (Or.inr hk') hm
    simp only [hk] at HW
    have HW := fun w' => hide (HW w')
    clear e1 r hE hk
    generalize h.makeBy M [] n = mk at *
    go_enter Tryz.func31, Tryz.ntmps31
    go_wp2_with (first
      | (go_at_call 49; refine ((HW _).out).mono ?_; rintro e w' ⟨rfl, hw⟩; replace hw := hw.symm; subst hw)
      | (go_at_call 67; refine HBk.out.mono ?_; rintro e w1 ⟨rfl, bl⟩; have HA1 := hide (HAd.out w1 bl); clear bl)
      | (go_at_call 61; refine HA1.out.mono ?_; rintro e w' ⟨ev, S', rfl, hq⟩; have HQ := hide hq; clear hq)
      | fail)
    go_ret2
    exact ⟨_, S', rfl, HQ.out⟩
end Go.Proofs.YtcnmfljpmpgnjaaGreatDoor

namespace Go.Proofs.YtcnmfljpmpgnjaaGreatDoor
open Go.RowKit Go.Maps
open Tm (H Ob Sl Why)

/-- slices.Repeat of one number. -/
theorem rep_any (w : World) (k : Int) (n b c : Nat) (hn : n ≤ 32) (hx : w.cell? ⟨b, 0, none⟩ = some (.int .i64 k)) (hb : b < w.heap.size) :
    Calls Tryz.prog 166 #[.slice (some ⟨b, 0, none⟩) 1 c, .int .i64 (n : Int)] w fun e w' => ∃ v kb, e = .returned v ∧ Below w.heap.size w w' ∧ IntsV (fun b => b < w'.heap.size) w' v kb (List.replicate n k) := by
  rcases Nat.eq_zero_or_pos n with h0 | h0
  · subst h0
    refine (repeat_zero w b 0 c).mono ?_
    rintro e w' ⟨rfl, rfl⟩
    exact ⟨_, 0, rfl, Below.alloc0 _ _, ⟨_, _, rfl, fun h => by simp at h, fun i hi => by simp at hi⟩⟩
  · refine (repeat_one w k n b 0 c h0 hn hx hb).mono ?_
    rintro e w' ⟨rfl, q1, q2, q3⟩
    refine ⟨_, w.heap.size, rfl, q1, ⟨_, n, by rw [List.length_replicate], fun _ => ⟨rfl, by omega⟩, fun i hi => ?_⟩⟩
    rw [List.length_replicate] at hi
    simp only [World.cell?, q3]
    simp [repRow, List.getD_eq_getElem?_getD, hi]

set_option maxRecDepth 100000 in
set_option maxHeartbeats 4000000 in
theorem arrayH_any {S : Nat → Prop} {tag : Nat → Nat × Nat} {w : World} {a : Nat} {Y : PLay} {h : H} {N : Nat} {A : Nat → Addr} (hE : Errs N A w) (hS : ∀ b, S b → N ≤ b) (r : PRep S tag w a Y h) (M : List Bool) (hM : Tm.Marked h M) (k n : Int) (hm : h.l.length + 1 < 4398046511104) :
    Calls Tryz.prog 147 #[.pointer (some ⟨a, 0, none⟩), .int .i64 k, .int .i64 n] w (HPost S w a A (h.arr M k n).1.1 (h.arr M k n).1.2 (h.arr M k n).2) := by
  have hi := ifaceE
  have g0 := hE.g0
  have HW := fun w' => within_any n 0 32 w' (by omega)
  have HK := fun w' => badKind_any k w'
  have HR := hide r
  have HRf := hide (refusal_any (A := A) hE (InErr.bare w 1 (by omega) (by omega)))
  cases hk : Tm.inR k 1 2
  · have e1 : h.arr M k n = ((0, ⟨1, 0⟩), h) := by unfold H.arr Tm.isArray; rw [hk]; rfl
    rw [e1]
    simp only [hk] at HK
    have HK := fun w' => hide (HK w')
    clear e1 r hE hk
    go_enter Tryz.func147, Tryz.ntmps147
    go_wp2_with (first
      | (go_at_call 129; refine ((HK _).out).mono ?_; rintro e w' ⟨rfl, hw⟩; replace hw := hw.symm; subst hw)
      | (go_at_call 50; refine HRf.out.mono ?_; rintro e w' ⟨ev, rfl, he, hb⟩; have HEr := hide he; have HB := hide hb; clear he hb)
      | fail)
    go_ret2
    exact ⟨_, S, rfl, HEr.out, ⟨tag, Y, HR.out.below HB.out (Nat.le_refl _)⟩, Kept.of_below HB.out, fun _ h => h, fun _ h => Or.inl h⟩
  · simp only [hk] at HK
    have HK := fun w' => hide (HK w')
    cases hn : Tm.inR n 0 32
    · have e1 : h.arr M k n = ((0, ⟨1, 0⟩), h) := by unfold H.arr Tm.isArray; rw [hk, hn]; rfl
      rw [e1]
      simp only [hn] at HW
      have HW := fun w' => hide (HW w')
      clear e1 r hE hk hn
      go_enter Tryz.func147, Tryz.ntmps147
      go_wp2_with (first
        | (go_at_call 129; refine ((HK _).out).mono ?_; rintro e w' ⟨rfl, hw⟩; replace hw := hw.symm; subst hw)
        | (go_at_call 49; refine ((HW _).out).mono ?_; rintro e w' ⟨rfl, hw⟩; replace hw := hw.symm; subst hw)
        | (go_at_call 50; refine HRf.out.mono ?_; rintro e w' ⟨ev, rfl, he, hb⟩; have HEr := hide he; have HB := hide hb; clear he hb)
        | fail)
      go_ret2
      exact ⟨_, S, rfl, HEr.out, ⟨tag, Y, HR.out.below HB.out (Nat.le_refl _)⟩, Kept.of_below HB.out, fun _ h => h, fun _ h => Or.inl h⟩
    · have hk' : 1 ≤ k ∧ k ≤ 2 := by simpa [Tm.inR] using hk
      have hn' : 0 ≤ n ∧ n ≤ 32 := by simpa [Tm.inR] using hn
      obtain ⟨q, rfl⟩ : ∃ q : Nat, n = (q : Int) := ⟨n.toNat, by omega⟩
      have e1 : h.arr M k (q : Int) = h.makeBy M (List.replicate q k) (-1) := by unfold H.arr Tm.isArray; rw [hk, hn, Int.toNat_natCast]; rfl
      rw [e1]
      simp only [hn] at HW
      have HW := fun w' => hide (HW w')
      have HRp := hide (rep_any (w.alloc (.cells #[.int .i64 k] 3)) k q w.heap.size 1 (by omega) (by rw [World.cell?_alloc_new]; rfl) (by simp))
      have HBk : Hid (∀ w1 v kb, Below w.heap.size w w1 → IntsV (fun b => b < w1.heap.size) w1 v kb (List.replicate q k) → Calls Tryz.prog 62 #[v] w1 fun e w' => ∃ x fb, e = .returned (.pointer (some ⟨x, 0, none⟩)) ∧ BlankAt w w' x fb (List.replicate q k) (-1)) := fun w1 v kb hb hv => by
        refine (blankO_any (S := fun b => b < w1.heap.size) w1 v kb (List.replicate q k) (fun b hb => hb) hv (by rw [List.length_replicate]; omega)).mono ?_
        rintro e w' ⟨rfl, bl⟩
        exact ⟨_, _, rfl, bl.after hb⟩
      have HAd : Hid (∀ w1 x fb, BlankAt w w1 x fb (List.replicate q k) (-1) → Calls Tryz.prog 61 #[.pointer (some ⟨a, 0, none⟩), .pointer (some ⟨x, 0, none⟩)] w1 (HPost S w a A (h.makeBy M (List.replicate q k) (-1)).1.1 (h.makeBy M (List.replicate q k) (-1)).1.2 (h.makeBy M (List.replicate q k) (-1)).2)) := fun w1 x fb bl =>
        add_after hE hS r M hM _ (-1) _ _ bl (by rw [List.length_replicate]; omega) (fun i hi => by
          rw [List.length_replicate] at hi
          simp only [List.getD_eq_getElem?_getD, List.getElem?_replicate, hi, if_true, Option.getD_some]
          omega) (Or.inl rfl) hm
      clear e1 r hE hk hn
      generalize h.makeBy M (List.replicate q k) (-1) = mk at *
      go_enter Tryz.func147, Tryz.ntmps147
      go_wp2_with (first
        | (go_at_call 129; refine ((HK _).out).mono ?_; rintro e w' ⟨rfl, hw⟩; replace hw := hw.symm; subst hw)
        | (go_at_call 49; refine ((HW _).out).mono ?_; rintro e w' ⟨rfl, hw⟩; replace hw := hw.symm; subst hw)
        | (go_at_call 166; refine HRp.out.mono ?_; rintro e w1 ⟨v, kb, rfl, hb1, hv⟩; have HBl := hide (HBk.out w1 v kb ((Below.alloc0 w _).trans (hb1.mono (by simp))) hv); clear hb1 hv)
        | (go_at_call 62; refine HBl.out.mono ?_; rintro e w2 ⟨x, fb, rfl, bl⟩; have HA1 := hide (HAd.out w2 x fb bl); clear bl)
        | (go_at_call 61; refine HA1.out.mono ?_; rintro e w' ⟨ev, S', rfl, hq⟩; have HQ := hide hq; clear hq)
        | fail)
      go_ret2
      exact ⟨_, S', rfl, HQ.out⟩
end Go.Proofs.YtcnmfljpmpgnjaaGreatDoor
