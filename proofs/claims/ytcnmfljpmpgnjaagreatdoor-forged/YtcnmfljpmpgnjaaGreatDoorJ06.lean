import Derived.Test.YtcnmfljpmpgnjaaGreatDoorJ05
import Derived.Lib.SliceRun
namespace Go.Proofs.YtcnmfljpmpgnjaaGreatDoor
open Go.RowKit Go.Maps
open Tm (H Ob Sl Why)

/-- What 'Vacant' gives. -/
def VacPost (A : Nat → Addr) (w : World) (n : Int) (e : Ending) (w' : World) : Prop := e = .returned (if n < 0 then .tuple #[.int .i64 0, .iface 261 (.pointer (some (A 6)))] else .tuple #[.int .i64 n, .nilIface]) ∧ Below w.heap.size w w'

set_option maxRecDepth 100000 in
set_option maxHeartbeats 2000000 in
theorem vacant_any {S : Nat → Prop} {tag : Nat → Nat × Nat} {w : World} {bt k to tg N : Nat} {A : Nat → Addr} {f : Int} {l : List Sl} (hE : Errs N A w) (h : TAt S tag w bt k to tg f l) (hS : ∀ b, S b → b < w.heap.size) (hbt : bt < w.heap.size) (k4 : k < 4) (hl : l.length ≤ 16) :
    Calls Tryz.prog 87 #[.pointer (some ⟨bt, 0, none⟩), .int .i64 k] w (VacPost A w (Tm.freeFrom l 0)) := by
  obtain ⟨cc, h1, hcc⟩ := h.ho
  have h2 := h.hg
  have hto := hS _ h.so
  have htg := hS _ h.sg
  have HO := hide h.ob
  have HF := hide h.fr
  have HG := hide h.gen
  have HE := hide hE
  have b0 : (k : Int) < 4 := by omega
  clear h hE
  go_enter Tryz.func87, Tryz.ntmps87
  go_wp2_with fail
  go_loopw [19] (fun i wr => ∃ j : Nat, j ≤ l.length ∧ i = .int .i64 j ∧ Tm.freeFrom l 0 = Tm.freeFrom (l.drop j) j ∧ Below w.heap.size w wr) (fun i _ => l.length - (intOf i).toNat)
  case atStart => exact ⟨0, by omega, rfl, by simp, Below.refl _ _⟩
  case round =>
    obtain ⟨j, hj, rfl, hf, hbl⟩ := hrel
    have hsz := hbl.size
    by_cases hlt : j < l.length
    · have bi : (j : Int) < (l.length : Int) := by omega
      have c1 : wr.cell? ⟨to, j * 2, none⟩ = _ := (hbl.cell hto).trans (HO.out j hlt)
      have c2 : wr.cell? ⟨tg, j, none⟩ = _ := (hbl.cell htg).trans (HG.out j hlt)
      have c3 : wr.cell? ⟨to, j * 2 + 1, none⟩ = _ := (hbl.cell hto).trans (HF.out j hlt)
      have c4 : wr.cell? ⟨bt, k * 3 + 1, none⟩ = _ := (hbl.cell hbt).trans h2
      have htg' : tg < wr.heap.size := by omega
      have hbt' : bt < wr.heap.size := by omega
      have hd := drop_getD l j hlt
      obtain ⟨s, hs⟩ : ∃ s, l.getD j Tm.sl0 = s := ⟨_, rfl⟩
      rw [hs] at c1 c2 c3 hd
      rw [hd, Tm.freeFrom] at hf
      have HFr := hide hf
      have HBl : ∀ o, Hid (Below w.heap.size w (wr.alloc o)) := fun o => hide (hbl.trans ((Below.alloc0 wr o).mono hsz))
      clear hf hd hs hbl
      generalize frOf k s = fl at *
      by_cases e1 : s.ob = 0
      · have e1' : (s.ob == 0) = true := by simpa using e1
        by_cases e2 : s.gen < 50
        · have HN : Hid (Tm.freeFrom l 0 = (j : Int)) := by
            have := HFr.out; rw [if_pos ⟨e1, e2⟩] at this; exact this
          have HE1 := hide e1
          clear e1 HFr
          go_wp2_with fail
          go_ret2
          exact ⟨by rw [HN.out, if_neg (by omega)]; rfl, (HBl _).out⟩
        · have HN : Hid (Tm.freeFrom l 0 = Tm.freeFrom (l.drop (j + 1)) ((j : Int) + 1)) := by
            have := HFr.out; rw [if_neg (by omega)] at this; exact this
          have HE1 := hide e1
          clear e1 HFr
          go_wp2_with fail
          go_roundw
          case rel => exact ⟨j + 1, by omega, by go_num, by rw [HN.out]; congr 1, (HBl _).out⟩
          case measure => simp [intOf]; omega
      · have e1' : (s.ob == 0) = false := by simpa using e1
        have HN : Hid (Tm.freeFrom l 0 = Tm.freeFrom (l.drop (j + 1)) ((j : Int) + 1)) := by
          have := HFr.out; rw [if_neg (by omega)] at this; exact this
        clear HFr
        go_wp2_with fail
        go_roundw
        case rel => exact ⟨j + 1, by omega, by go_num, by rw [HN.out]; congr 1, (HBl _).out⟩
        case measure => simp [intOf]; omega
    · have bi : ¬ (j : Int) < (l.length : Int) := by omega
      have HN : Hid (Tm.freeFrom l 0 = -1) := by
        show _ = _
        rw [hf, List.drop_eq_nil_of_le (by omega)]; rfl
      have g6 := (HE.out.below hbl HE.out.le).g6
      have HBl := hide hbl
      clear hf hbl
      go_wp2_with fail
      go_quiet (fail)
      go_wp2_with fail
      go_ret2
      exact ⟨by rw [HN.out]; rfl, HBl.out.trans ⟨rfl, rfl, rfl, Nat.le_refl _, fun _ _ => rfl⟩⟩

/-- What 'Take' leaves. -/
def tookW (w : World) (Y : PLay) (k i : Nat) (n f g : Int) : World := ((w.setCell ⟨Y.to k, i * 2, none⟩ (.int .i64 n)).setCell ⟨Y.to k, i * 2 + 1, none⟩ (.int .i64 f)).setCell ⟨Y.tg k, i, none⟩ (.int .i64 g)

set_option maxRecDepth 100000 in
set_option maxHeartbeats 2000000 in
theorem takeT_any {S : Nat → Prop} {tag : Nat → Nat × Nat} {w : World} {a : Nat} {Y : PLay} {h : H} (r : PRep S tag w a Y h) (k i : Nat) (n : Int) (k0 : 0 < k) (k4 : k < 4) (hi : i < (h.t k).length) :
    Calls Tryz.prog 88 #[.pointer (some ⟨Y.bt, 0, none⟩), .int .i64 k, .int .i64 i, .int .i64 n] w fun e w' => e = .returned (.int .i64 ((k : Int) + 4 * (i : Int) + 256 * ((h.sl k i).gen + 1))) ∧ ∃ d, w' = (tookW w Y k i n (tabFr k h.frames) ((h.sl k i).gen + 1)).drewN d := by
  have t := r.tab k k0 k4
  obtain ⟨cc, h1, hcc⟩ := t.ho
  have h2 := t.hg
  have h3 := t.hf
  have c1 := t.ob i hi
  have c3 := t.fr i hi
  have c2 := t.gen i hi
  have f1 := r.soft _ (i * 2) t.so
  have f3 := r.soft _ (i * 2 + 1) t.so
  have f2 := r.soft _ i t.sg
  have hl := r.good.tabs k
  have hg := r.good.slots k i hi
  have nt1 : Y.bt ≠ Y.to k := fun e => by have h1 := r.st.2; rw [e, t.tago] at h1; simp at h1
  have nt2 : Y.bt ≠ Y.tg k := fun e => by have h1 := r.st.2; rw [e, t.tagg] at h1; simp at h1
  have nt3 : Y.tg k ≠ Y.to k := fun e => by have h1 := t.tagg; rw [e, t.tago] at h1; simp at h1
  have b0 : (k : Int) < 4 := by omega
  have bi : (i : Int) < ((h.t k).length : Int) := by omega
  have eg : ((h.t k).getD i Tm.sl0).gen = (h.sl k i).gen := rfl
  rw [eg] at c2
  clear eg
  generalize (h.sl k i).gen = g at *
  generalize frOf k ((h.t k).getD i Tm.sl0) = of at *
  generalize ((h.t k).getD i Tm.sl0).ob = o at *
  generalize (h.t k).length = L at *
  unfold tookW
  generalize tabFr k h.frames = tf at *
  obtain ⟨W, eW⟩ : ∃ W, W = (w.setCell ⟨Y.to k, i * 2, none⟩ (.int .i64 n)).setCell ⟨Y.to k, i * 2 + 1, none⟩ (.int .i64 tf) := ⟨_, rfl⟩
  have ob1 : ∀ b j, b ≠ Y.to k → W.cell? ⟨b, j, none⟩ = w.cell? ⟨b, j, none⟩ := fun b j hb => by
    rw [eW, World.cell?_setCell_other _ _ _ _ (fun e => hb (congrArg Addr.block e).symm), World.cell?_setCell_other _ _ _ _ (fun e => hb (congrArg Addr.block e).symm)]
  have d1 : W.cell? ⟨Y.bt, k * 3 + 1, none⟩ = some (.slice (some ⟨Y.tg k, 0, none⟩) L L) := (ob1 _ _ nt1).trans h2
  have d2 : W.cell? ⟨Y.tg k, i, none⟩ = some (.int .i64 g) := (ob1 _ _ nt3).trans c2
  have f4 : W.frozen? ⟨Y.tg k, i, none⟩ = false := by rw [eW, World.frozen?_setCell, World.frozen?_setCell]; exact f2
  have d3 : (W.setCell ⟨Y.tg k, i, none⟩ (.int .i64 (g + 1))).cell? ⟨Y.bt, k * 3 + 1, none⟩ = some (.slice (some ⟨Y.tg k, 0, none⟩) L L) := by rw [World.cell?_setCell_other _ _ _ _ (fun e => nt2 (congrArg Addr.block e).symm)]; exact d1
  have d4 : (W.setCell ⟨Y.tg k, i, none⟩ (.int .i64 (g + 1))).cell? ⟨Y.tg k, i, none⟩ = some (.int .i64 (g + 1)) := World.cell?_setCell_same _ _ _ d2
  have HW := hide eW
  clear t r ob1 eW
  go_enter Tryz.func88, Tryz.ntmps88
  go_wp2_with fail
  go_region
  rw [← HW.out]
  go_wp2_with fail
  go_ret
  exact ⟨rfl, 1, by rw [← HW.out]; rfl⟩

theorem zeroSl (w : World) : (zeroValue 139).run Tryz.prog w = .ok (.agg #[.int .i64 0, .int .i64 0]) w := by kernel_rfl
theorem clear_slot (w : World) (ty : TypeId) (b o c : Nat) (h0 : (w.cell? ⟨b, o, none⟩).isSome = true) (h1 : (w.cell? ⟨b, o + 1, none⟩).isSome = true) (f0 : w.frozen? ⟨b, o, none⟩ = false) (f1 : w.frozen? ⟨b, o + 1, none⟩ = false) :
    (Builtin.clear_ #[132] ty #[.slice (some ⟨b, o, none⟩) 1 c]).run Tryz.prog w = .ok (.tuple #[]) ((w.setCell ⟨b, o, none⟩ (.int .i64 0)).setCell ⟨b, o + 1, none⟩ (.int .i64 0)) := by
  have hst := run_storeCells_cells (P := Tryz.prog) b o [.int .i64 0, .int .i64 0] 0 w (by intro j hj; simp at hj; rcases (show j = 0 ∨ j = 1 by omega) with rfl | rfl; exact h0; exact h1) (by intro j hj; simp at hj; rcases (show j = 0 ∨ j = 1 by omega) with rfl | rfl; exact f0; exact f1) (by intro v hv; simp at hv; rw [hv]; rfl)
  simp only [Nat.add_zero] at hst
  have hzc : (Builtin.zeroCells (Value.agg #[.int .i64 0, .int .i64 0]).cells 1).toList = [.int .i64 0, .int .i64 0] := by kernel_rfl
  simp [Builtin.clear_, run_underlying Tryz.underlying132, hzc, hst]
  rfl

theorem zeroI (w : World) : (zeroValue 3).run Tryz.prog w = .ok (.int .i64 0) w := by kernel_rfl

set_option maxRecDepth 100000 in
set_option maxHeartbeats 2000000 in
theorem freeT_any {S : Nat → Prop} {tag : Nat → Nat × Nat} {w : World} {a : Nat} {Y : PLay} {h : H} {N : Nat} {A : Nat → Addr} (hE : Errs N A w) (r : PRep S tag w a Y h) (x : Int) (hx : x < 9223372036854775808) :
    Calls Tryz.prog 60 #[.pointer (some ⟨Y.bt, 0, none⟩), .int .i64 x] w fun e w' => ∃ ev, e = .returned ev ∧ InErr A w' ev (h.freed x).1 ∧ PRep S tag w' a Y (h.freed x).2 ∧ Kept S w w' := by
  have HO := objectT_any hE r x hx
  have hi := ifaceE
  by_cases hc : (h.of x).2.reason = 0
  · obtain ⟨y, ey⟩ : ∃ y, (h.of x).2 = y := ⟨_, rfl⟩
    have hs : ¬ h.slot x < 0 := fun hs => by
      unfold H.of at hc
      by_cases h0 : x = 0
      · rw [if_pos h0] at hc; simp at hc
      · rw [if_neg h0, if_pos hs] at hc; simp at hc
    obtain ⟨hp, h4, e1, hlt, hg1, hg2⟩ := slot_bd h x hs
    have HP := fun w' => hide (parts_any x w' (by omega) hx)
    have hk0 : 0 < (x % 4).toNat := by omega
    have hk4 : (x % 4).toNat < 4 := by omega
    have t := r.tab (x % 4).toNat hk0 hk4
    obtain ⟨cc, ho, hcc⟩ := t.ho
    have il : (x / 4 % 64).toNat < (h.t (x % 4).toNat).length := by omega
    have c1 := t.ob _ il
    have c3 := t.fr _ il
    have f1 := r.soft _ ((x / 4 % 64).toNat * 2) t.so
    have f3 := r.soft _ ((x / 4 % 64).toNat * 2 + 1) t.so
    obtain ⟨i, ei⟩ : ∃ i : Nat, x / 4 % 64 = (i : Int) := ⟨(x / 4 % 64).toNat, by omega⟩
    obtain ⟨k, ek⟩ : ∃ k : Nat, x % 4 = (k : Int) := ⟨(x % 4).toNat, by omega⟩
    have HEnd : Hid (PRep S tag ((w.setCell ⟨Y.to (x % 4).toNat, (x / 4 % 64).toNat * 2, none⟩ (.int .i64 0)).setCell ⟨Y.to (x % 4).toNat, (x / 4 % 64).toNat * 2 + 1, none⟩ (.int .i64 0)) a Y (h.freed x).2 ∧ (h.freed x).1 = Tm.fine ∧ Kept S w ((w.setCell ⟨Y.to (x % 4).toNat, (x / 4 % 64).toNat * 2, none⟩ (.int .i64 0)).setCell ⟨Y.to (x % 4).toNat, (x / 4 % 64).toNat * 2 + 1, none⟩ (.int .i64 0))) := by
      show _ ∧ _ ∧ _
      have ef : h.freed x = (Tm.fine, h.setSl (x % 4).toNat (x / 4 % 64).toNat { h.sl (x % 4).toNat (x / 4 % 64).toNat with ob := 0 }) := by
        unfold H.freed; rw [if_neg (by simpa using hc)]
      rw [ef]
      have hsl := r.good.slots _ _ il
      have off : ∀ {x' y' : Nat}, x' ≠ y' → (⟨Y.to (x % 4).toNat, x', none⟩ : Addr) ≠ ⟨Y.to (x % 4).toNat, y', none⟩ := fun h e => h (congrArg Addr.off e)
      refine ⟨r.setSl _ _ _ hk0 hk4 il (r.good.setSl _ _ { h.sl (x % 4).toNat (x / 4 % 64).toNat with ob := 0 } il ⟨Int.le_refl _, Int.natCast_nonneg _, hsl.2.2.1, hsl.2.2.2⟩ (fun _ h => absurd rfl h) (fun _ h => absurd rfl h)) (by simp) (fun b hb n1 n2 => by rw [Below.heap_setCell _ _ _ _ n1, Below.heap_setCell _ _ _ _ n1]) (fun b i hb => by rw [World.frozen?_setCell, World.frozen?_setCell]) (fun i' hi' => ?_) (fun i' hi' => ?_) (fun i' hi' => ?_), rfl, ((Kept.refl S w).setCell (Or.inl t.so) _).setCell (Or.inl t.so) _⟩
      · rw [World.cell?_setCell_other _ _ _ _ (off (by omega))]
        by_cases e : i' = (x / 4 % 64).toNat
        · subst e; rw [if_pos rfl, World.cell?_setCell_same _ _ _ c1]
        · rw [if_neg e, World.cell?_setCell_other _ _ _ _ (off (by omega))]
      · by_cases e : i' = (x / 4 % 64).toNat
        · subst e; rw [if_pos rfl, World.cell?_setCell_same _ _ _ (by rw [World.cell?_setCell_other _ _ _ _ (off (by omega))]; exact c3)]; rfl
        · rw [if_neg e, World.cell?_setCell_other _ _ _ _ (off (by omega)), World.cell?_setCell_other _ _ _ _ (off (by omega))]
      · have n3 : Y.tg (x % 4).toNat ≠ Y.to (x % 4).toNat := fun e => by have h1 := t.tagg; rw [e, t.tago] at h1; simp at h1
        rw [World.cell?_setCell_other _ _ _ _ (fun e2 => n3 (congrArg Addr.block e2).symm), World.cell?_setCell_other _ _ _ _ (fun e2 => n3 (congrArg Addr.block e2).symm)]
        by_cases e : i' = (x / 4 % 64).toNat
        · subst e; rw [if_pos rfl]; exact t.gen _ il
        · rw [if_neg e]
    rw [ei] at il c1 c3 f1 f3 HEnd HP
    rw [ek] at il c1 c3 f1 f3 ho hcc HEnd HP
    simp only [Int.toNat_natCast] at il c1 c3 f1 f3 ho hcc HEnd
    have hl16 := r.good.tabs k
    obtain ⟨L, eL⟩ : ∃ L, (h.t k).length = L := ⟨_, rfl⟩
    rw [eL] at ho hcc il hl16
    have hcl : ∀ ty c, (Builtin.clear_ #[132] ty #[.slice (some ⟨Y.to k, i * 2, none⟩) 1 c]).run Tryz.prog w = .ok (.tuple #[]) ((w.setCell ⟨Y.to k, i * 2, none⟩ (.int .i64 0)).setCell ⟨Y.to k, i * 2 + 1, none⟩ (.int .i64 0)) := fun ty c => clear_slot w ty _ _ c (by rw [c1]; rfl) (by rw [c3]; rfl) f1 f3
    have HO := hide HO
    have HHc := hide hc
    have b1 : (k : Int) < 4 := by omega
    have b2 : (i : Int) + 1 ≤ (cc : Int) := by omega
    clear t hc r hE eL e1 hlt hs ey
    go_enter Tryz.func60, Tryz.ntmps60
    go_wp2_with (first
      | (go_at_call 85
         refine HO.out.mono ?_
         rintro e w' ⟨ev, rfl, _, _, hz, _⟩
         obtain ⟨rfl, rfl⟩ := hz HHc.out)
      | (go_at_call 94; refine ((HP _).out).mono ?_; rintro e w'' ⟨rfl, rfl⟩)
      | fail)
    go_ret
    exact ⟨_, rfl, Or.inl ⟨rfl, by rw [HEnd.out.2.1]; rfl⟩, HEnd.out.1, HEnd.out.2.2⟩
  · have ef : h.freed x = ((h.of x).2, h) := by unfold H.freed; rw [if_pos (by simpa using hc)]
    rw [ef]
    have HO := hide HO
    have HHc := hide hc
    have HR := hide r
    clear hc ef r
    go_enter Tryz.func60, Tryz.ntmps60
    go_wp2_with (first
      | (go_at_call 85
         refine HO.out.mono ?_
         rintro e w' ⟨ev, rfl, he, hb, _, hz⟩
         obtain ⟨b, rfl⟩ := hz HHc.out
         have HB := hide hb
         have HEr := hide he
         clear hb he hz)
      | fail)
    go_ret
    exact ⟨_, rfl, HEr.out, HR.out.below HB.out (Nat.le_refl _), Kept.of_below HB.out⟩
end Go.Proofs.YtcnmfljpmpgnjaaGreatDoor

namespace Go.Proofs.YtcnmfljpmpgnjaaGreatDoor
open Go.RowKit Go.Maps
open Tm (H Ob Sl Why)

theorem lawI : Keyed Tryz.prog 3 := int_keyed Tryz.underlying3
theorem zeroO (w : World) : (zeroValue 99).run Tryz.prog w = .ok (.pointer none) w := by kernel_rfl
theorem zeroU (w : World) : (zeroValue 188).run Tryz.prog w = .ok (.agg #[]) w := by kernel_rfl

theorem key_at {n : Int} {N : Nat} (h0 : 0 < n) (h1 : n ≤ (N : Int)) : ∃ j : Nat, j < N ∧ n = (j : Int) + 1 := ⟨(n - 1).toNat, by omega, by omega⟩

theorem ptrElem_inj {v v' : Value} {d : DataW Unit} {ps ps' : List MemPlace} (h : ptrElem v = some (d, ps)) (h' : ptrElem v' = some (d, ps')) : v = v' := by
  obtain ⟨c, rfl⟩ := ptrElem_inv h
  obtain ⟨c', rfl⟩ := ptrElem_inv h'
  cases c <;> cases c' <;> simp [ptrV, ptrElem] at h h' ⊢
  · rw [← h'.1] at h; simp at h
  · rw [← h'.1] at h; simp at h
  · have := h.1.trans h'.1.symm
    simp at this
    omega

theorem wf_i64 {n : Int} (hn : -9223372036854775808 ≤ n) (hn2 : n ≤ 9223372036854775807) : (Lit.int .i64 n).wf = true := by
  simp [Lit.wf, IntKind.min, IntKind.max, IntKind.signed, IntKind.bits]; omega

/-- What 'Find' gives. -/
def findV (h : H) (Y : PLay) (n : Int) : Value := if 0 < n ∧ n ≤ (h.l.length : Int) ∧ alive h (n - 1).toNat = true then .tuple #[.pointer (some ⟨Y.ob (n - 1).toNat, 0, none⟩), .bool true] else .tuple #[.pointer none, .bool false]

set_option maxRecDepth 100000 in
set_option maxHeartbeats 1000000 in
theorem find_any {S : Nat → Prop} {tag : Nat → Nat × Nat} {w : World} {a : Nat} {Y : PLay} {h : H} (r : PRep S tag w a Y h) (n : Int) (hn : -9223372036854775808 ≤ n) (hn2 : n ≤ 9223372036854775807) :
    Calls Tryz.prog 86 #[.pointer (some ⟨Y.bs, 0, none⟩), .int .i64 n] w fun e w' => e = .returned (findV h Y n) ∧ w' = w := by
  have hm := r.map
  obtain ⟨D, d1, d2⟩ := r.objs
  have hk : keyOf Tryz.prog 3 (.int .i64 n) = some (.int .i64 n) := keyOf_int_mk Tryz.underlying3 (wf_i64 hn hn2)
  have hv : ∃ v ps, ptrElem v = some (D.atKey (.int .i64 n) .nil, ps) ∧ (Value.tuple #[v, .bool (Maps.has D (.int .i64 n))] = findV h Y n) := by
    by_cases hc : 0 < n ∧ n ≤ (h.l.length : Int) ∧ alive h (n - 1).toNat = true
    · obtain ⟨j, hj, rfl⟩ := key_at hc.1 hc.2.1
      have ej : ((j : Int) + 1 - 1).toNat = j := by omega
      refine ⟨.pointer (some ⟨Y.ob j, 0, none⟩), [], ?_, ?_⟩
      · have := d2.at' j .nil hj (by rw [ej] at hc; exact hc.2.2)
        rw [show (Lit.int .i64 ((j : Int) + 1)) = key j from rfl, this]; rfl
      · have := d2.hasN j
        unfold findV
        rw [if_pos hc, show (Lit.int .i64 ((j : Int) + 1)) = key j from rfl, this, ej]
        rw [ej] at hc
        rw [hc.2.2]; simp [hj]
    · have h0 : Maps.has D (.int .i64 n) = false := by
        cases hh : Maps.has D (.int .i64 n)
        · rfl
        · obtain ⟨j, h1, h2, h3⟩ := (d2.has _).1 hh
          simp only [key, Lit.int.injEq, true_and] at h3
          subst h3
          exact absurd ⟨by omega, by omega, by rw [show ((j : Int) + 1 - 1).toNat = j from by omega]; exact h2⟩ hc
      refine ⟨.pointer none, [], ?_, ?_⟩
      · rw [atKey_of_not_has h0]; rfl
      · unfold findV; rw [if_neg hc, h0]
  obtain ⟨v0, ps0, hv1, hv2⟩ := hv
  rw [← hv2]
  have inj : ∀ v ps, ptrElem v = some (D.atKey (.int .i64 n) .nil, ps) → v = v0 := fun v ps hp => by
    exact ptrElem_inj hp hv1
  have HI := hide inj
  clear inj hv1 hv2
  go_enter Tryz.func86, Tryz.ntmps86
  go_wp2_with (first
    | (at_lookup; refine wpList_lookup_own_ok _ rfl _ _ 127 rfl 3 99 lawI Tryz.underlying127 ptrElem (zeroO _) .nil [] rfl Y.bm h.l.length D rfl d1 _ _ rfl hk ?_; intro v ps hp; have := HI.out v ps hp; subst this)
    | go_in)
  go_ret2
  exact ⟨rfl, rfl⟩

/-- The step of a range over the objects. -/
theorem wpList_next_objs {P : Program} (w : World) {ops : Array Oper} {rest : List Oper} {o : Oper} {a : Act} {Q : Exit → Act → World → Prop} (hg : o.guard = none) (it : Operand) (hop : o.op = Op.next it false) (k : TypeId) (K : Keyed P k) (b r n : Nat) (D : DataW Unit) (left : Lit → Bool) (cnt : Nat)
    (N : Nat) (al : Nat → Bool) (ob : Nat → Nat) (hD : ObjsD D N al ob) (hl : ∀ kl, left kl = true → Maps.has D kl = true) (hku : P.underlying k = some (.int .i64))
    (hit : a.eval it = .pointer (some ⟨r, 0, none⟩)) (h : w.ranges P k ptrElem b r n D left cnt)
    (hDone : cnt = 0 → (∀ kl, left kl = false) → wpList P ops Q rest (a.put o.dst (.tuple #[.bool false])) w)
    (hMore : ∀ (j : Nat) (w' : World) (cnt' : Nat), j < N → al j = true → left (key j) = true → w'.ranges P k ptrElem b r n D (fun z => left z && !z.sameKey (key j)) cnt' → cnt' < cnt →
      w.grownBy w' (some r) → w'.heap.size = w.heap.size → (Instr.entry (.pointer (some ⟨r, 0, none⟩))).run P w' = .ok (.tuple #[.int .i64 ((j : Int) + 1), .pointer (some ⟨ob j, 0, none⟩)]) w' → wpList P ops Q rest (a.put o.dst (.tuple #[.bool true, .int .i64 ((j : Int) + 1), .pointer (some ⟨ob j, 0, none⟩)])) w') :
    wpList P ops Q (o :: rest) a w :=
  wpList_next_ranges w hg it hop k K ptrElem (Value.int .i64) ptrV (fun key kl hkey => by obtain ⟨x, rfl, _⟩ := Maps.keyOf_int_inv hku hkey; exact ⟨x, rfl⟩) (fun v y hv => ptrElem_inv hv)
    b r n D left cnt hit h hDone (fun x c kl y w' cnt' hkey hlk hv hat hrg hlt hgr hsz hen => by
      obtain ⟨x', ex, rfl, hwx⟩ := Maps.keyOf_int_inv hku hkey
      cases ex
      obtain ⟨j, h1, h2, h3⟩ := (hD.has _).1 (hl _ hlk)
      have ex : x = (j : Int) + 1 := by simpa [key] using h3
      subst ex
      have hy : y.1 = .lit (.int .i64 (ob j : Int)) := (hat .nil).symm.trans (hD.at' j .nil h1 h2)
      have hc : ptrV c = .pointer (some ⟨ob j, 0, none⟩) := ptrElem_at (ps := y.2) (by rw [hv, ← hy])
      rw [hc] at hen ⊢
      exact hMore j w' cnt' h1 h2 hlk hrg hlt hgr hsz hen)

theorem Below.of_grown {w w' : World} (h : w.grownBy w' none) : Below w.heap.size w w' := ⟨h.os, h.tape, h.output, h.size, fun k hk => h.block k hk (by simp)⟩
theorem grown_below {w w' w'' : World} (h : Below w.heap.size w w') {r : Nat} (hr : w.heap.size ≤ r) (g : w'.grownBy w'' (some r)) : Below w.heap.size w w'' :=
  ⟨g.os.trans h.os, g.tape.trans h.tape, g.output.trans h.output, Nat.le_trans h.size g.size, fun k hk => (g.block k (Nat.lt_of_lt_of_le hk h.size) (by simp; omega)).trans (h.block k hk)⟩

theorem count_any {S : Nat → Prop} {tag : Nat → Nat × Nat} {w : World} {a : Nat} {Y : PLay} {h : H} (r : PRep S tag w a Y h) :
    Calls Tryz.prog 56 #[.pointer (some ⟨Y.bs, 0, none⟩)] w fun e w' => e = .returned (.int .i64 (Tm.countOf h.l)) ∧ w' = w := by
  have hm := r.map
  obtain ⟨D, d1, d2⟩ := r.objs
  have hs := d2.size (ownsMap_keys d1 lawI)
  have hl := d1.len Tryz.underlying127
  rw [hs] at hl
  rw [countOf_cnt]
  go_enter Tryz.func56, Tryz.ntmps56
  go_wp2_with fail
  go_ret
  exact ⟨rfl, rfl⟩

set_option maxRecDepth 100000 in
set_option maxHeartbeats 1000000 in
theorem roomP_any {S : Nat → Prop} {tag : Nat → Nat × Nat} {w : World} {a : Nat} {Y : PLay} {h : H} (r : PRep S tag w a Y h) :
    Calls Tryz.prog 57 #[.pointer (some ⟨Y.bs, 0, none⟩)] w fun e w' => e = .returned (.int .i64 (Tm.roomOf h.l)) ∧ Below w.heap.size w w' := by
  have hm := r.map
  obtain ⟨D, d1, d2⟩ := r.objs
  have HR := hide r
  have hk32 : ∀ j, j < h.l.length → (h.l.getD j Tm.ob0).kinds.length ≤ 32 := fun j hj => (r.good.eq j hj).2
  have hmany := r.good.many
  have hbd := rm_bd h.l
  rw [roomOf_rm]
  have HB := hide hbd
  clear hbd
  go_enter Tryz.func57, Tryz.ntmps57
  go_wp2_with (first
    | (at_range; refine wpList_range_own _ rfl _ 127 rfl 3 99 lawI Tryz.underlying127 ptrElem Y.bm h.l.length D rfl d1 ?_; intro w0 hrg0 hg0 hs0)
    | go_in)
  go_frame
  go_loopw [3] (fun sv wr => ∃ (left : Lit → Bool) (cnt : Nat), wr.ranges Tryz.prog 3 ptrElem Y.bm w.heap.size h.l.length D left cnt ∧ (∀ kl, left kl = true → Maps.has D kl = true) ∧ sv = .int .i64 (rm h.l (alive h) h.l.length - rm h.l (fun j => left (key j)) h.l.length) ∧ Below w.heap.size w wr)
    (fun _ wr => wr.rangeLeft Y.bm w.heap.size)
  case atStart => 
    refine ⟨_, _, hrg0, fun _ h => h, ?_, Below.of_grown hg0⟩
    rw [rm_congr h.l (al := fun j => Maps.has D (key j)) (al' := alive h) _ (fun j hj => by rw [d2.hasN j]; simp [hj]), Int.sub_self]
  case round =>
    obtain ⟨left, cnt, hrg, hsub, rfl, hbl⟩ := hrel
    go_wp2_with (first
      | (at_next; refine wpList_next_objs _ rfl _ rfl 3 lawI Y.bm w.heap.size h.l.length D left cnt h.l.length (alive h) Y.ob d2 hsub Tryz.underlying3 rfl hrg ?_ ?_)
      | go_in)
    · intro _ hl0
      go_wp2_with fail
      go_ret
      exact ⟨ret_int (by rw [rm_none h.l _ _ (fun j _ => hl0 (key j))]; omega), hbl⟩
    · intro j w1 cnt1 hj ha hlj hrg1 hlt hg1 hs1 hen
      have hbl1 := grown_below hbl (Nat.le_refl _) hg1
      have HO := hide (oroom_any ((HR.out.below hbl1 (Nat.le_refl _)).obj j hj ha) (hk32 j hj))
      have b1 := HB.out (fun i => left (key i)) h.l.length hk32
      have b2 := HB.out (alive h) h.l.length hk32
      have b3 := HB.out (fun i => (fun z => left z && !z.sameKey (key j)) (key i)) h.l.length hk32
      have hst : rm h.l (fun i => (fun z => left z && !z.sameKey (key j)) (key i)) h.l.length = rm h.l (fun i => left (key i)) h.l.length - (1 + ((h.l.getD j Tm.ob0).kinds.length : Int)) := by
        rw [← rm_strike h.l (fun i => left (key i)) h.l.length j hj hlj]
        refine rm_congr _ _ (fun i _ => ?_)
        by_cases e : i = j
        · subst e; simp [WideAt.sameKey_self (key_is i)]
        · simp [sameKey_ne (fun e2 => e (key_inj e2)), e]
      have h32 := hk32 j hj
      have HST := hide hst
      generalize hK : ((h.l.getD j Tm.ob0).kinds.length : Int) = K at *
      generalize hA : rm h.l (alive h) h.l.length = RA at *
      generalize hL : rm h.l (fun i => left (key i)) h.l.length = RL at *
      generalize hL2 : rm h.l (fun i => (fun z => left z && !z.sameKey (key j)) (key i)) h.l.length = RL2 at *
      have hst2 := HST.out
      clear HST hst
      have HH := hide hL2
      have HA := hide hA
      clear hL2 hL hA hK
      go_wp2_with (first | (go_at_call 93; refine HO.out.mono ?_; rintro e w' ⟨rfl, rfl⟩) | fail)
      go_roundw
      case rel => exact ⟨_, cnt1, hrg1, fun kl hk => hsub kl (by simp at hk; exact hk.1), by rw [HH.out, HA.out]; congr 1; omega, hbl1⟩
      case measure => rw [hrg1.left_eq, hrg.left_eq]; exact hlt
end Go.Proofs.YtcnmfljpmpgnjaaGreatDoor
