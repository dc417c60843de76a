import Derived.Test.YtcnmfljpmpgnjaaGreatDoorJ06
import Derived.Deep.RegionHeld3
import Derived.Test.YtcnmfljpmpgnjaaGreatDoorJ07
import Derived.Test.YtcnmfljpmpgnjaaGreatDoorJ08
import Derived.Test.YtcnmfljpmpgnjaaGreatDoorJ00
namespace Go.Proofs.YtcnmfljpmpgnjaaGreatDoor
open Go.RowKit Go.Maps
open Tm (H Ob Sl Why)

theorem PRep.drewN {S : Nat → Prop} {tag : Nat → Nat × Nat} {w : World} {a : Nat} {Y : PLay} {h : H} (r : PRep S tag w a Y h) (n : Nat) : PRep S tag (w.drewN n) a Y h := r.same (fun _ _ => rfl) (Nat.le_refl _)
theorem below_drewN (w : World) (n : Nat) : Below w.heap.size w (w.drewN n) := ⟨rfl, rfl, rfl, Nat.le_refl _, fun _ _ => rfl⟩
theorem below_of_drewN {w w' : World} {n : Nat} (h : Below (w.drewN n).heap.size (w.drewN n) w') : Below w.heap.size w w' := (below_drewN w n).trans h

set_option maxRecDepth 100000 in
set_option maxHeartbeats 1000000 in
theorem granted_any {S : Nat → Prop} {tag : Nat → Nat × Nat} {w : World} {a : Nat} {Y : PLay} {h : H} (r : PRep S tag w a Y h) (g : Int) (hg : 0 ≤ g ∧ g ≤ 1000) :
    Calls Tryz.prog 124 #[.pointer (some ⟨Y.bs, 0, none⟩), .int .i64 g] w fun e w' => e = .returned (.int .i64 (min g (max (h.room - Tm.roomOf h.l) 0))) ∧ Below w.heap.size w w' := by
  have hl := r.limit
  have HR := fun n => hide (roomP_any (r.drewN n))
  have hlt := r.lt _ r.ss.1
  have hs := r.good.small
  have hb : 0 ≤ Tm.roomOf h.l ∧ Tm.roomOf h.l ≤ 33 * (h.l.length : Int) := by rw [roomOf_rm]; exact rm_bd _ _ _ (fun j hj => (r.good.eq j hj).2)
  have hm := r.good.many
  clear r
  generalize Tm.roomOf h.l = R at *
  generalize h.room = RM at *
  have hw : IntKind.i64.wrap (RM - R) = RM - R := IntWalk.i64_in _ (by omega)
  have HM1 : Hid (RM - R < 0 → 0 < g → min g (max (RM - R) 0) = 0) := fun h _ => by show min g (max (RM - R) 0) = 0; omega
  go_enter Tryz.func124, Tryz.ntmps124
  go_wp2_with fail
  go_region_held3 (fun w' => w'.cell? ⟨Y.bs, 0, none⟩ = some (.int .i64 RM)) (first | go_keep | trivial) (first | (go_at_call 57; refine ((HR _).out).mono ?_; rintro e w2 ⟨rfl, hb2⟩; have c2 : w2.cell? ⟨Y.bs, 0, none⟩ = some (.int .i64 RM) := (by rw [(below_of_drewN hb2).cell hlt]; exact hl); have HB2 := hide (below_of_drewN hb2); clear hb2) | fail)
  all_goals go_wp2_with fail
  all_goals go_ret
  all_goals refine ⟨ret_int ?_, HB2.out⟩
  all_goals first
    | omega
    | (rw [hw]; omega)
    | (rw [hw] at *; omega)

theorem infoF : (Tryz.prog.info? 147).map (fun i => (i.zero, i.size, i.bytes)) = some (some (.agg #[.int .i64 0, .int .i64 0]), 2, 16) := by kernel_rfl
theorem make_fields (w : World) (n : Nat) (hn : n ≤ 32) :
    (Instr.makeSlice 143 (.int .i64 (n : Int)) (.int .i64 (n : Int))).run Tryz.prog w = .ok (.slice (some ⟨w.heap.size, 0, none⟩) n n) (w.alloc (.cells (madeCells #[.int .i64 0, .int .i64 0] (n * 2)) 147)) := by
  obtain ⟨i3, hi3, hz0, hz1, hz2⟩ := info_parts infoF
  have := run_make (P := Tryz.prog) w 143 147 i3 _ Tryz.underlying143 hi3 hz0 .i64 .i64 (n : Int) (n : Int) (by omega) (by omega) (by rw [hz2]; omega) (by omega)
  rw [hz1, Int.toNat_natCast] at this
  exact this
theorem made_fields (n i : Nat) (hi : i < n * 2) : (madeCells #[Value.int .i64 0, .int .i64 0] (n * 2))[i]? = some (.int .i64 0) := by
  have : i % 2 = 0 ∨ i % 2 = 1 := by omega
  rcases this with e | e <;> simp [madeCells, hi, e]

/-- An object as it is at first, in new blocks. -/
structure BlankAt (w w' : World) (x fb : Nat) (ks : List Int) (nm : Int) : Prop where
  below : Below w.heap.size w w'
  lo : w.heap.size ≤ x ∧ w.heap.size ≤ fb
  hi : x < w'.heap.size ∧ fb < w'.heap.size
  ne : 0 < ks.length → x ≠ fb
  at' : ONewAt w' x fb ks nm
  soft : ∀ b i, b = x ∨ b = fb → w'.frozen? ⟨b, i, none⟩ = false

set_option maxRecDepth 100000 in
set_option maxHeartbeats 1000000 in
theorem blankO_any {S : Nat → Prop} (w : World) (v : Value) (kb : Nat) (ks : List Int) (hS : ∀ b, S b → b < w.heap.size) (hv : IntsV S w v kb ks) (hl : ks.length ≤ 32) :
    Calls Tryz.prog 62 #[v] w fun e w' => e = .returned (.pointer (some ⟨w.heap.size + 1, 0, none⟩)) ∧ BlankAt w w' (w.heap.size + 1) w.heap.size ks (-1) := by
  obtain ⟨p, c, rfl, hv1, hv2⟩ := hv
  have hmk := make_fields w ks.length hl
  have HV1 := hide hv1
  have HV2 := hide hv2
  clear hv1 hv2
  go_enter Tryz.func62, Tryz.ntmps62
  go_wp2_with fail
  go_loopw [13] (fun iv w' => ∃ i : Nat, i ≤ ks.length ∧ iv = .int .i64 i ∧ Below w.heap.size w w' ∧ w'.heap.size = w.heap.size + 2 ∧ (w'.cell? ⟨w.heap.size + 1, 0, none⟩ = some (.slice (some ⟨w.heap.size, 0, none⟩) ks.length ks.length) ∧ w'.cell? ⟨w.heap.size + 1, 1, none⟩ = some (.int .i64 0) ∧ w'.cell? ⟨w.heap.size + 1, 2, none⟩ = some (.bool false)) ∧ (∀ q, q < ks.length → ∃ u, w'.cell? ⟨w.heap.size, q * 2, none⟩ = some u ∧ (q < i → u = .int .i64 (ks.getD q 0))) ∧ (∀ q, q < ks.length → w'.cell? ⟨w.heap.size, q * 2 + 1, none⟩ = some (.int .i64 0)) ∧ ∀ b i, b = w.heap.size ∨ b = w.heap.size + 1 → w'.frozen? ⟨b, i, none⟩ = false) (fun iv _ => ks.length - (intOf iv).toNat)
  case atStart =>
    refine ⟨0, by omega, rfl, (Below.alloc0 w _).trans ((Below.refl _ _).alloc (by simp) _), by simp, ⟨?_, ?_, ?_⟩, fun q hq => ⟨.int .i64 0, ?_, fun h => by omega⟩, fun q hq => ?_, fun b i hb => ?_⟩
    · rw [World.cell?_alloc_at _ _ _ _ (by simp)]; rfl
    · rw [World.cell?_alloc_at _ _ _ _ (by simp)]; rfl
    · rw [World.cell?_alloc_at _ _ _ _ (by simp)]; rfl
    · rw [World.cell?_alloc_lt _ _ _ (by simp), World.cell?_alloc_new]; exact made_fields _ _ (by omega)
    · rw [World.cell?_alloc_lt _ _ _ (by simp), World.cell?_alloc_new]; exact made_fields _ _ (by omega)
    · rcases hb with rfl | rfl
      · rw [World.frozen?_alloc_past _ _ _ (by simp)]; exact World.frozen?_alloc_new _ _ _ _
      · exact World.frozen?_alloc_at _ _ _ _ (by simp)
  case round =>
    obtain ⟨i, hi, rfl, bl, sz, hhs, hk, hvl, hfz⟩ := hrel
    have hh := hhs.1
    have HB := hide bl
    have HS := hide sz
    have HH := hide hhs
    have HK := hide hk
    have HVl := hide hvl
    have HFz := hide hfz
    clear hhs
    by_cases hlt : i < ks.length
    · have bi : (i : Int) < (ks.length : Int) := by omega
      obtain ⟨rfl, hS1⟩ := HV1.out (by omega)
      have ci : wr.cell? ⟨kb, i, none⟩ = some (.int .i64 (ks.getD i 0)) := by rw [bl.cell (hS _ hS1)]; exact HV2.out i hlt
      obtain ⟨u, hu, _⟩ := hk i hlt
      have fu := hfz w.heap.size (i * 2) (Or.inl rfl)
      clear bl sz hk hvl hfz
      obtain ⟨x, ex⟩ : ∃ x, ks.getD i 0 = x := ⟨_, rfl⟩
      rw [ex] at ci
      have HKi := hide ex
      clear ex
      go_wp2_with fail
      have off : ∀ {x y : Nat}, x ≠ y → (⟨w.heap.size, x, none⟩ : Addr) ≠ ⟨w.heap.size, y, none⟩ := fun h e => h (congrArg Addr.off e)
      have oth : ∀ i', (wr.setCell ⟨w.heap.size, i * 2, none⟩ (.int .i64 x)).cell? ⟨w.heap.size + 1, i', none⟩ = wr.cell? ⟨w.heap.size + 1, i', none⟩ := fun i' => World.cell?_setCell_other _ _ _ _ (fun e => by have := congrArg Addr.block e; simp at this)
      refine ⟨⟨i + 1, by omega, by go_num, HB.out.setCell (Nat.le_refl _) _, by rw [World.size_setCell]; exact HS.out, ⟨?_, ?_, ?_⟩, fun q hq => ?_, fun q hq => ?_, fun b i hb => by rw [World.frozen?_setCell]; exact HFz.out b i hb⟩, by simp [intOf]; omega⟩
      · rw [oth]; exact HH.out.1
      · rw [oth]; exact HH.out.2.1
      · rw [oth]; exact HH.out.2.2
      · by_cases e : q = i
        · subst e; exact ⟨_, World.cell?_setCell_same _ _ _ hu, fun _ => by rw [HKi.out]⟩
        · obtain ⟨u', q1, q2⟩ := HK.out q hq
          exact ⟨u', by rw [World.cell?_setCell_other _ _ _ _ (off (by omega))]; exact q1, fun h => q2 (by omega)⟩
      · rw [World.cell?_setCell_other _ _ _ _ (off (by omega))]; exact HVl.out q hq
    · have bi : ¬ (i : Int) < (ks.length : Int) := by omega
      go_wp2_with fail
      go_ret
      have hz := HS.out
      exact ⟨rfl, HB.out, ⟨by omega, by omega⟩, ⟨by omega, by omega⟩, fun _ => by omega, ⟨⟨_, _, HH.out.1, fun _ => rfl⟩, fun q hq => ⟨by obtain ⟨u, q1, q2⟩ := HK.out q hq; rw [q1, q2 (by omega)], HVl.out q hq⟩, HH.out.2.1, HH.out.2.2, fun h0 => absurd h0 (by omega)⟩, fun b i hb => HFz.out b i (by rcases hb with hb | hb; exact Or.inr hb; exact Or.inl hb)⟩

theorem named_any (w : World) (nm : Int) (h0 : 0 ≤ nm) :
    Calls Tryz.prog 67 #[.int .i64 nm] w fun e w' => e = .returned (.pointer (some ⟨w.heap.size, 0, none⟩)) ∧ BlankAt w w' w.heap.size w.heap.size [] nm := by
  go_enter Tryz.func67, Tryz.ntmps67
  go_wp2_with fail
  go_ret
  refine ⟨rfl, ?_⟩
  refine ⟨Below.alloc0 _ _, ⟨Nat.le_refl _, Nat.le_refl _⟩, ⟨by simp, by simp⟩, fun h => by simp at h, ⟨⟨none, 0, by rw [World.cell?_alloc_new]; rfl, fun h => by simp at h⟩, fun q hq => by simp at hq, by rw [World.cell?_alloc_new]; rfl, by rw [World.cell?_alloc_new, decide_eq_true h0]; rfl, fun _ => by rw [World.cell?_alloc_new]; rfl⟩, fun b i hb => ?_⟩
  have : b = w.heap.size := by rcases hb with hb | hb <;> exact hb
  subst this
  exact World.frozen?_alloc_new _ _ _ _

/-- What 'Add' leaves. -/
def AddPost (S : Nat → Prop) (tag : Nat → Nat × Nat) (w : World) (a : Nat) (Y : PLay) (h : H) (A : Nat → Addr) (ks : List Int) (nm : Int) (x fb : Nat) (e : Ending) (w' : World) : Prop :=
  if h.room < Tm.roomOf h.l + (1 + (ks.length : Int)) then e = .returned (.tuple #[.int .i64 0, errV A 8]) ∧ Below w.heap.size w w'
  else e = .returned (.tuple #[.int .i64 ((h.l.length : Int) + 1), .nilIface]) ∧ PRep (pgrowS S x fb) (pgrowT tag h.l.length x fb) w' a (pgrowY Y h.l.length x fb) (h.grown ks nm) ∧ Kept (fun b => b = Y.bs ∨ b = Y.bm) w w'

theorem Kept.of_turned {S : Nat → Prop} {a w w' : World} (h : Kept S a w) {b : Nat} (hb : S b ∨ a.heap.size ≤ b) (g : w.grownBy w' (some b)) : Kept S a w' :=
  ⟨g.os.trans h.os, g.tape.trans h.tape, g.output.trans h.output, Nat.le_trans h.size g.size, fun k hk hs => (g.block k (Nat.lt_of_lt_of_le hk h.size) (by
    intro e; cases e; rcases hb with hb | hb
    · exact hs hb
    · omega)).trans (h.block k hk hs)⟩

theorem turned_frozen {w w' : World} {b : Nat} (h : w.mapTurned w' b) (a : Addr) : w'.frozen? a = w.frozen? a := h.frozen a
end Go.Proofs.YtcnmfljpmpgnjaaGreatDoor

namespace Go.Proofs.YtcnmfljpmpgnjaaGreatDoor
open Go.RowKit Go.Maps
open Tm (H Ob Sl Why)

/-- What a call that answers a number leaves. -/
def HPost (S : Nat → Prop) (w : World) (a : Nat) (A : Nat → Addr) (n : Int) (y : Why) (h' : H) (e : Ending) (w' : World) : Prop :=
  ∃ ev S', e = .returned (.tuple #[.int .i64 n, ev]) ∧ ErrIn A w.heap.size w' ev y ∧ PR S' w' a h' ∧ Kept S w w' ∧ (∀ b, S b → S' b) ∧ ∀ b, S' b → S b ∨ w.heap.size ≤ b
/-- What a call that answers an error alone leaves. -/
def DPost (S : Nat → Prop) (w : World) (a : Nat) (A : Nat → Addr) (y : Why) (h' : H) (e : Ending) (w' : World) : Prop :=
  ∃ ev, e = .returned ev ∧ ErrIn A w.heap.size w' ev y ∧ PR S w' a h' ∧ Kept S w w'

theorem InErr.bare {A : Nat → Addr} (w : World) (n : Nat) (h1 : 1 ≤ n) (h2 : n ≤ 10) : InErr A w (.iface 261 (.pointer (some (A (n - 1))))) ⟨(n : Int), 0⟩ :=
  Or.inr (Or.inl ⟨n, h1, h2, rfl, rfl, rfl⟩)

theorem Errs.kept {N : Nat} {A : Nat → Addr} {w w' : World} (hE : Errs N A w) (hb : Below w.heap.size w w') : Errs N A w' := hE.below hb hE.le

theorem below_drewN2 (w : World) (n : Nat) : Below w.heap.size w (w.drewN n) := ⟨rfl, rfl, rfl, Nat.le_refl _, fun _ _ => rfl⟩

theorem take_good {h : H} (g : Tm.Good h) (k : Nat) (n : Int) (hf : 0 ≤ h.free k) (hn : 0 < n) (hn2 : n ≤ (h.l.length : Int)) (ha : (h.ob n).gone = false) : ∃ i : Nat, i < (h.t k).length ∧ h.free k = (i : Int) ∧ Tm.Good (h.take k n).2 ∧ (h.take k n).2 = h.setSl k i ⟨(h.sl k i).gen + 1, n, h.frames⟩ ∧ (h.take k n).1 = (k : Int) + 4 * (i : Int) + 256 * ((h.sl k i).gen + 1) := by
  obtain ⟨i, h1, h2, h3, h4⟩ := freeFrom_bd (h.t k) 0 (Int.le_refl _) hf
  have e : h.free k = (i : Int) := by unfold H.free; rw [h2]; omega
  have e2 : (h.free k).toNat = i := by omega
  have hsl := g.slots k i h1
  have hgen : (h.sl k i).gen < 50 := h4
  refine ⟨i, h1, e, ?_, ?_, ?_⟩
  · unfold H.take; simp only; rw [e2]
    exact g.setSl k i _ h1 ⟨by simp only; omega, hn2, by simp only; omega, by simp only; omega⟩ (fun _ _ => ha) (fun _ _ => ⟨g.frames.1, Int.le_refl _⟩)
  · unfold H.take; simp only; rw [e2]
  · unfold H.take; simp only; rw [e2, e]

/-- A slot is taken, in memory. -/
theorem PRep.took {S : Nat → Prop} {tag : Nat → Nat × Nat} {w : World} {a : Nat} {Y : PLay} {h : H} (r : PRep S tag w a Y h) (k i d : Nat) (n : Int) (k0 : 0 < k) (k4 : k < 4) (hi : i < (h.t k).length) (hn : n ≠ 0) (hg : Tm.Good (h.setSl k i ⟨(h.sl k i).gen + 1, n, h.frames⟩)) :
    PRep S tag ((tookW w Y k i n (tabFr k h.frames) ((h.sl k i).gen + 1)).drewN d) a Y (h.setSl k i ⟨(h.sl k i).gen + 1, n, h.frames⟩) ∧ Kept S w ((tookW w Y k i n (tabFr k h.frames) ((h.sl k i).gen + 1)).drewN d) := by
  have t := r.tab k k0 k4
  have n3 : Y.tg k ≠ Y.to k := fun e => by have h1 := t.tagg; rw [e, t.tago] at h1; simp at h1
  have off : ∀ {x y : Nat}, x ≠ y → (⟨Y.to k, x, none⟩ : Addr) ≠ ⟨Y.to k, y, none⟩ := fun h e => h (congrArg Addr.off e)
  have ef : frOf k ⟨(h.sl k i).gen + 1, n, h.frames⟩ = tabFr k h.frames := by unfold frOf tabFr; rw [if_neg hn]
  refine ⟨(r.setSl (w' := tookW w Y k i n (tabFr k h.frames) ((h.sl k i).gen + 1)) k i _ k0 k4 hi hg (by simp [tookW]) (fun b hb n1 n2 => ?_) (fun b i hb => by unfold tookW; rw [World.frozen?_setCell, World.frozen?_setCell, World.frozen?_setCell]) (fun i' hi' => ?_) (fun i' hi' => ?_) (fun i' hi' => ?_)).drewN d, ((((Kept.refl S w).setCell (Or.inl t.so) _).setCell (Or.inl t.so) _).setCell (Or.inl t.sg) _).drewN d⟩
  · unfold tookW; rw [Below.heap_setCell _ _ _ _ n2, Below.heap_setCell _ _ _ _ n1, Below.heap_setCell _ _ _ _ n1]
  · unfold tookW
    rw [World.cell?_setCell_other _ _ _ _ (fun e2 => n3 (congrArg Addr.block e2)), World.cell?_setCell_other _ _ _ _ (off (by omega))]
    by_cases e : i' = i
    · subst e; rw [if_pos rfl]; exact World.cell?_setCell_same _ _ _ (t.ob _ hi)
    · rw [if_neg e]; exact World.cell?_setCell_other _ _ _ _ (off (by omega))
  · unfold tookW
    rw [World.cell?_setCell_other _ _ _ _ (fun e2 => n3 (congrArg Addr.block e2)), ef]
    by_cases e : i' = i
    · subst e; rw [if_pos rfl]; exact World.cell?_setCell_same _ _ _ (by rw [World.cell?_setCell_other _ _ _ _ (off (by omega))]; exact t.fr _ hi)
    · rw [if_neg e, World.cell?_setCell_other _ _ _ _ (off (by omega)), World.cell?_setCell_other _ _ _ _ (off (by omega))]
  · unfold tookW
    by_cases e : i' = i
    · subst e; rw [if_pos rfl]; exact World.cell?_setCell_same _ _ _ (by rw [World.cell?_setCell_other _ _ _ _ (fun e2 => n3 (congrArg Addr.block e2).symm), World.cell?_setCell_other _ _ _ _ (fun e2 => n3 (congrArg Addr.block e2).symm)]; exact t.gen _ hi)
    · rw [if_neg e, World.cell?_setCell_other _ _ _ _ (fun e2 => e (congrArg Addr.off e2).symm), World.cell?_setCell_other _ _ _ _ (fun e2 => n3 (congrArg Addr.block e2).symm), World.cell?_setCell_other _ _ _ _ (fun e2 => n3 (congrArg Addr.block e2).symm)]

/-- 'take'. -/
def H.takes (h : H) (k : Nat) (n : Int) : (Int × Why) × H := if h.free k < 0 then ((0, ⟨7, 0⟩), h) else (((h.take k n).1, Tm.fine), (h.take k n).2)

set_option maxRecDepth 100000 in
set_option maxHeartbeats 2000000 in
theorem takeH_any {S : Nat → Prop} {tag : Nat → Nat × Nat} {w : World} {a : Nat} {Y : PLay} {h : H} {N : Nat} {A : Nat → Addr} (hE : Errs N A w) (r : PRep S tag w a Y h) (k : Nat) (n : Int) (k0 : 0 < k) (k4 : k < 4) (hn : 0 < n) (hn2 : n ≤ (h.l.length : Int)) (ha : (h.ob n).gone = false) :
    Calls Tryz.prog 52 #[.pointer (some ⟨a, 0, none⟩), .int .i64 k, .int .i64 n] w (HPost S w a A (H.takes h k n).1.1 (H.takes h k n).1.2 (H.takes h k n).2) := by
  have c2 := r.tables
  have hal := r.lt _ r.sa.1
  have hi := ifaceE
  have HV := vacant_any hE (r.tab k k0 k4) r.lt (r.lt _ r.st.1) k4 (r.good.tabs k)
  rw [show Tm.freeFrom (h.t k) 0 = h.free k from rfl] at HV
  have HR := hide r
  have HE := hide hE
  by_cases hf : h.free k < 0
  · have e1 : H.takes h k n = ((0, ⟨7, 0⟩), h) := by unfold H.takes; rw [if_pos hf]
    rw [e1]
    unfold VacPost at HV
    rw [if_pos hf] at HV
    have HV := hide HV
    clear e1 r hE
    go_enter Tryz.func52, Tryz.ntmps52
    go_wp2_with (first
      | (go_at_call 87
         refine HV.out.mono ?_
         rintro e w1 ⟨rfl, hb1⟩
         have HRf := hide (refusal_any (A := A) (HE.out.kept hb1) (InErr.bare w1 7 (by omega) (by omega)))
         have HB1 := hide hb1
         clear hb1)
      | (go_at_call 50; refine HRf.out.mono ?_; rintro e w' ⟨ev, rfl, he, hb⟩; have HEr := hide he; have HB := hide hb; clear he hb)
      | fail)
    go_ret2
    have hb2 : Below w.heap.size w _ := HB1.out.trans (HB.out.mono HB1.out.size)
    exact ⟨_, S, rfl, HEr.out.mono HB1.out.size, ⟨tag, Y, HR.out.below hb2 (Nat.le_refl _)⟩, Kept.of_below hb2, fun _ h => h, fun _ h => Or.inl h⟩
  · have e1 : H.takes h k n = (((h.take k n).1, Tm.fine), (h.take k n).2) := by unfold H.takes; rw [if_neg hf]
    rw [e1]
    obtain ⟨i, hil, ef, hgt, et2, et1⟩ := take_good r.good k n (by omega) hn hn2 ha
    unfold VacPost at HV
    rw [if_neg hf, ef] at HV
    have HV := hide HV
    have hgt2 := hgt
    rw [et2] at hgt2
    have HT : Hid (∀ w1, Below w.heap.size w w1 → Calls Tryz.prog 88 #[.pointer (some ⟨Y.bt, 0, none⟩), .int .i64 k, .int .i64 i, .int .i64 n] w1 fun e w' => e = .returned (.int .i64 (h.take k n).1) ∧ PRep S tag w' a Y (h.take k n).2 ∧ Kept S w w') := fun w1 hb => by
      have r1 := HR.out.below hb (Nat.le_refl _)
      refine (takeT_any r1 k i n k0 k4 hil).mono ?_
      rintro e w' ⟨rfl, d, rfl⟩
      have q := r1.took k i d n k0 k4 hil (by omega) hgt2
      exact ⟨by rw [et1], by rw [et2]; exact q.1, (Kept.of_below hb).trans q.2⟩
    simp only
    clear e1 r hE et1 et2 hgt hgt2 ef
    generalize h.take k n = tk at *
    go_enter Tryz.func52, Tryz.ntmps52
    go_wp2_with (first
      | (go_at_call 87
         refine HV.out.mono ?_
         rintro e w1 ⟨rfl, hb1⟩
         have c2' : w1.cell? ⟨a, 2, none⟩ = some (.pointer (some ⟨Y.bt, 0, none⟩)) := by rw [hb1.cell hal]; exact c2
         have HT1 := hide (HT.out w1 hb1)
         clear hb1)
      | (go_at_call 88; refine HT1.out.mono ?_; rintro e w' ⟨rfl, hp, hk⟩; have HP := hide hp; have HK := hide hk; clear hp hk)
      | fail)
    go_ret2
    exact ⟨_, S, rfl, ErrIn.nil _ _ _ _ rfl, ⟨tag, Y, HP.out⟩, HK.out, fun _ h => h, fun _ h => Or.inl h⟩
end Go.Proofs.YtcnmfljpmpgnjaaGreatDoor

namespace Go.Proofs.YtcnmfljpmpgnjaaGreatDoor
open Go.RowKit Go.Maps
open Tm (H Ob Sl Why)

theorem ofDrew {w w' : World} {n : Nat} (h : Below (w.drewN n).heap.size (w.drewN n) w') : Below w.heap.size w w' := (below_drewN2 w n).trans h

theorem hasF_is (h : H) (n i kind : Int) : h.hasField n i kind = hasF (h.ob n) i kind := rfl

theorem PRep.objN {S : Nat → Prop} {tag : Nat → Nat × Nat} {w : World} {a : Nat} {Y : PLay} {h : H} (r : PRep S tag w a Y h) (x : Int) (hc : (h.object x).2.reason = 0) :
    ∃ j : Nat, j < h.l.length ∧ alive h j = true ∧ ((h.object x).1 - 1).toNat = j ∧ h.ob (h.object x).1 = h.l.getD j Tm.ob0 ∧ (h.object x).1 = (j : Int) + 1 ∧ OAt S tag w (Y.ob j) j (Y.fb j) (h.l.getD j Tm.ob0) ∧ (h.l.getD j Tm.ob0).kinds.length ≤ 32 := by
  obtain ⟨j, hj, e, ha, eo⟩ := object_bdG r.good x hc
  exact ⟨j, hj, ha, by omega, eo, e, r.obj j hj ha, (r.good.eq j hj).2⟩

set_option maxRecDepth 100000 in
set_option maxHeartbeats 2000000 in
theorem getH_any {S : Nat → Prop} {tag : Nat → Nat × Nat} {w : World} {a : Nat} {Y : PLay} {h : H} {N : Nat} {A : Nat → Addr} (hE : Errs N A w) (r : PRep S tag w a Y h) (x i : Int) (hx : x < 9223372036854775808) :
    Calls Tryz.prog 41 #[.pointer (some ⟨a, 0, none⟩), .int .i64 x, .int .i64 i] w (HPost S w a A (h.get x i).1 (h.get x i).2 h) := by
  have HO := objectH_any hE r x hx
  have hi := ifaceE
  have HR := hide r
  have HE := hide hE
  by_cases hc : (h.object x).2.reason = 0
  · obtain ⟨j, hj, ha, ej, eo, e1, oa, h32⟩ := r.objN x hc
    have HHc := hide hc
    unfold OPost at HO
    rw [if_pos hc, ej] at HO
    have HO := hide HO
    have HN := number_any hE oa h32 i
    have hg : h.get x i = if hasF (h.l.getD j Tm.ob0) i 1 then ((h.l.getD j Tm.ob0).vals.getD i.toNat 0, Tm.fine) else (0, ⟨6, 0⟩) := by
      unfold H.get; rw [if_neg (by simpa using hc), hasF_is, eo]
    rw [hg]
    cases hf : hasF (h.l.getD j Tm.ob0) i 1
    · rw [hf] at HN
      simp only [Bool.false_eq_true, if_false, errV] at HN ⊢
      have HN := hide HN
      have HRf := fun d => hide (refusal_any (A := A) (hE.kept (below_drewN2 w d)) (InErr.bare (w.drewN d) 6 (by omega) (by omega)))
      clear r hE hc e1 ej eo oa hg hf
      go_enter Tryz.func41, Tryz.ntmps41
      go_wp2_with (first
        | (go_at_call 69; refine HO.out.mono ?_; rintro e w' ⟨ev, rfl, _, _, hz, _⟩; obtain ⟨rfl, rfl⟩ := hz HHc.out)
        | (go_at_call 76; refine HN.out.mono ?_; rintro e w' ⟨rfl, d, rfl⟩)
        | (go_at_call 50; refine ((HRf _).out).mono ?_; rintro e w' ⟨ev, rfl, he, hb⟩; have HEr := hide he; have HB := hide hb; clear he hb)
        | fail)
      go_ret2
      have hb2 := ofDrew HB.out
      exact ⟨_, S, rfl, HEr.out.mono (by first | exact Nat.le_refl _ | exact HB1.out.size | exact HK.out.size | exact hszE), ⟨tag, Y, HR.out.below hb2 (Nat.le_refl _)⟩, Kept.of_below hb2, fun _ h => h, fun _ h => Or.inl h⟩
    · rw [hf] at HN
      simp only [if_true] at HN ⊢
      have HN := hide HN
      have HRf := fun d => hide (refusal_any (A := A) (y := ⟨0, 0⟩) (hE.kept (below_drewN2 w d)) (Or.inl ⟨rfl, rfl⟩))
      clear r hE hc e1 ej eo oa hg hf
      generalize (h.l.getD j Tm.ob0).vals.getD i.toNat 0 = v at *
      go_enter Tryz.func41, Tryz.ntmps41
      go_wp2_with (first
        | (go_at_call 69; refine HO.out.mono ?_; rintro e w' ⟨ev, rfl, _, _, hz, _⟩; obtain ⟨rfl, rfl⟩ := hz HHc.out)
        | (go_at_call 76; refine HN.out.mono ?_; rintro e w' ⟨rfl, d, rfl⟩)
        | (go_at_call 50; refine ((HRf _).out).mono ?_; rintro e w' ⟨ev, rfl, he, hb⟩; have HEr := hide he; have HB := hide hb; clear he hb)
        | fail)
      go_ret2
      have hb2 := ofDrew HB.out
      exact ⟨_, S, rfl, HEr.out.mono (by first | exact Nat.le_refl _ | exact HB1.out.size | exact HK.out.size | exact hszE), ⟨tag, Y, HR.out.below hb2 (Nat.le_refl _)⟩, Kept.of_below hb2, fun _ h => h, fun _ h => Or.inl h⟩
  · have hg : h.get x i = (0, (h.object x).2) := by unfold H.get; rw [if_pos (by simpa using hc)]
    rw [hg]
    have HHc := hide hc
    unfold OPost at HO
    rw [if_neg hc] at HO
    have HO := hide HO
    clear r hE hc hg
    obtain ⟨y, ey⟩ : ∃ y, (h.object x).2 = y := ⟨_, rfl⟩
    simp only [ey] at HO HHc ⊢
    clear ey
    go_enter Tryz.func41, Tryz.ntmps41
    go_wp2_with (first
      | (go_at_call 69
         refine HO.out.mono ?_
         rintro e w1 ⟨ev, rfl, he1, hb1, _, hz⟩
         obtain ⟨b, rfl⟩ := hz HHc.out
         have HB1 := hide hb1
         have HRf := hide (refusal_any (HE.out.kept hb1) he1)
         clear hb1 he1 hz)
      | (go_at_call 50; refine HRf.out.mono ?_; rintro e w' ⟨ev, rfl, he, hb⟩; have HEr := hide he; have HB := hide hb; clear he hb)
      | fail)
    go_ret2
    have hb2 := HB1.out.trans (HB.out.mono HB1.out.size)
    exact ⟨_, S, rfl, HEr.out.mono (by first | exact Nat.le_refl _ | exact HB1.out.size | exact HK.out.size | exact hszE), ⟨tag, Y, HR.out.below hb2 (Nat.le_refl _)⟩, Kept.of_below hb2, fun _ h => h, fun _ h => Or.inl h⟩
end Go.Proofs.YtcnmfljpmpgnjaaGreatDoor

namespace Go.Proofs.YtcnmfljpmpgnjaaGreatDoor
open Go.RowKit
open Tm (H Ob Sl Why)

set_option maxRecDepth 100000 in
theorem within_any (v lo hi : Int) (w : World) (hl : lo ≤ hi) :
    Calls Tryz.prog 49 #[.int .i64 v, .int .i64 lo, .int .i64 hi] w fun e w' => e = .returned (.bool (Tm.inR v lo hi)) ∧ w' = w := by
  by_cases h1 : lo ≤ v
  · by_cases h2 : v ≤ hi
    · have e : Tm.inR v lo hi = true := by simp [Tm.inR]; omega
      rw [e]
      have q1 : max v lo = v := by omega
      have q2 : min v hi = v := by omega
      go_enter Tryz.func49, Tryz.ntmps49
      go_wp2_with fail
      all_goals go_ret
      all_goals first | exact ⟨rfl, rfl⟩ | exact ⟨ret_bool (by simp; omega), rfl⟩
    · have e : Tm.inR v lo hi = false := by simp [Tm.inR]; omega
      rw [e]
      go_enter Tryz.func49, Tryz.ntmps49
      go_wp2_with fail
      all_goals go_ret
      all_goals first | exact ⟨rfl, rfl⟩ | exact ⟨ret_bool (by simp; omega), rfl⟩
  · have e : Tm.inR v lo hi = false := by simp [Tm.inR]; omega
    rw [e]
    go_enter Tryz.func49, Tryz.ntmps49
    go_wp2_with fail
    all_goals go_ret
    all_goals first | exact ⟨rfl, rfl⟩ | exact ⟨ret_bool (by simp; omega), rfl⟩

end Go.Proofs.YtcnmfljpmpgnjaaGreatDoor
