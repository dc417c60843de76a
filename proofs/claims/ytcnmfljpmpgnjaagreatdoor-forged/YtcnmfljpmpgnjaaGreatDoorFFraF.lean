import Derived.Test.YtcnmfljpmpgnjaaGreatDoorJ06
import Derived.Test.YtcnmfljpmpgnjaaGreatDoorJ11
import Derived.Lib.SliceRun
import Derived.Test.YtcnmfljpmpgnjaaGreatDoorJ17
namespace Go.Proofs.YtcnmfljpmpgnjaaGreatDoor
open Go.RowKit Go.Maps
open Tm (H Ob Sl Why)

/-- The cells of slots. -/
def slCells (ob fr : Nat → Int) : Nat → List Value
  | 0 => []
  | n + 1 => slCells ob fr n ++ [.int .i64 (ob n), .int .i64 (fr n)]
theorem slCells_len (ob fr : Nat → Int) (n : Nat) : (slCells ob fr n).length = n * 2 := by
  induction n with
  | zero => rfl
  | succ n ih => simp only [slCells, List.length_append, ih, List.length_cons, List.length_nil]; omega
theorem slCells_at (ob fr : Nat → Int) (n q : Nat) (h : q < n) : (slCells ob fr n)[q * 2]? = some (.int .i64 (ob q)) ∧ (slCells ob fr n)[q * 2 + 1]? = some (.int .i64 (fr q)) := by
  induction n with
  | zero => omega
  | succ n ih =>
    have hl := slCells_len ob fr n
    simp only [slCells]
    by_cases e : q = n
    · subst e
      rw [List.getElem?_append_right (by omega), List.getElem?_append_right (by omega), hl]
      simp
    · rw [List.getElem?_append_left (by omega), List.getElem?_append_left (by omega)]
      exact ih (by omega)
theorem slCells_one (ob fr : Nat → Int) (n : Nat) : ∀ u ∈ slCells ob fr n, u.oneCell' = true := by
  induction n with
  | zero => intro u hu; cases hu
  | succ n ih =>
    intro u hu
    rcases List.mem_append.1 hu with h | h
    · exact ih u h
    · simp at h; rcases h with rfl | rfl <;> rfl

/-- Slots in memory. -/
def SlotsAt (w : World) (b : Nat) (ob fr : Nat → Int) (L : Nat) : Prop := ∀ q, q < L → w.cell? ⟨b, q * 2, none⟩ = some (.int .i64 (ob q)) ∧ w.cell? ⟨b, q * 2 + 1, none⟩ = some (.int .i64 (fr q))

theorem slots_news {w : World} {b : Nat} {ob fr : Nat → Int} {L : Nat} (h : SlotsAt w b ob fr L) : ∀ j u, (slCells ob fr L)[j]? = some u → w.cell? ((⟨b, 0, none⟩ : Addr).add j) = some u := fun j u hj => by
  rw [Addr.add_lit, Nat.zero_add]
  have hjl : j < L * 2 := by
    rcases Nat.lt_or_ge j (L * 2) with h | h
    · exact h
    · rw [List.getElem?_eq_none (by rw [slCells_len]; exact h)] at hj; cases hj
  obtain ⟨q, hq⟩ : ∃ q, j = q * 2 ∨ j = q * 2 + 1 := ⟨j / 2, by omega⟩
  have hqL : q < L := by omega
  rcases hq with rfl | rfl
  · rw [(slCells_at ob fr L q hqL).1] at hj; rw [(h q hqL).1]; exact hj
  · rw [(slCells_at ob fr L q hqL).2] at hj; rw [(h q hqL).2]; exact hj

theorem infoSlQ : (Tryz.prog.info? 139).map (fun i => (i.zero, i.size, i.bytes)) = some (some (.agg #[.int .i64 0, .int .i64 0]), 2, 16) := by kernel_rfl

/-- What slices.Clone of slots gives. -/
structure CloneSl (w w' : World) (g cap : Nat) (ob fr : Nat → Int) (L : Nat) : Prop where
  below : Below w.heap.size w w'
  lo : w.heap.size ≤ g
  hi : g < w'.heap.size
  cap : L ≤ cap
  at' : SlotsAt w' g ob fr L
  soft : ∀ i, w'.frozen? ⟨g, i, none⟩ = false

set_option maxRecDepth 100000 in
set_option maxHeartbeats 2000000 in
theorem cloneSl_any (w : World) (b c : Nat) (ob fr : Nat → Int) (L : Nat) (hL : L ≤ 16) (hb : b < w.heap.size) (h : SlotsAt w b ob fr L) :
    Calls Tryz.prog 130 #[.slice (some ⟨b, 0, none⟩) L c] w fun e w' => ∃ g cap, e = .returned (.slice (some ⟨g, 0, none⟩) L cap) ∧ CloneSl w w' g cap ob fr L := by
  have hq : ∀ w', (binOp .eql 132 (.slice (some ⟨b, 0, none⟩) L c) (.slice none 0 0)).run Tryz.prog w' = .ok (.bool false) w' := fun w' => Lib.run_eql_slice_nil w' 132 139 (some ⟨b, 0, none⟩) L c 0 0 Tryz.underlying132
  obtain ⟨i3, hi3, hz0, hz1, hz2⟩ := info_parts infoSlQ
  have HI := hide (And.intro hi3 (And.intro hz0 (And.intro hz1 hz2)))
  have HN : Hid (∀ x j u, (slCells ob fr L)[j]? = some u → (w.alloc x).cell? ((⟨b, 0, none⟩ : Addr).add j) = some u) := fun x => slots_news (w := w.alloc x) (fun q hq => ⟨by rw [World.cell?_alloc_lt _ _ _ hb]; exact (h q hq).1, by rw [World.cell?_alloc_lt _ _ _ hb]; exact (h q hq).2⟩)
  clear hi3 hz0 hz1 hz2 h
  go_enter Tryz.func130, Tryz.ntmps130
  go_wp2_with (first
    | (at_builtin; refine wpList_append_own_at _ rfl _ _ 132 rfl w.heap.size 139 i3 (.agg #[.int .i64 0, .int .i64 0]) 2 16 Tryz.underlying132 HI.out.1 HI.out.2.1 HI.out.2.2.1 HI.out.2.2.2 rfl (by decide) (.slice (some ⟨w.heap.size, 0, none⟩) 0 0) 0 [] rfl ⟨rfl, .inr ⟨w.heap.size, 0, #[], rfl, Nat.le_refl _, heap_alloc_new _ _, Nat.le_refl _, Nat.zero_le _, rfl, rfl⟩⟩ ⟨b, 0, none⟩ L c (slCells ob fr L) rfl (slCells_len ob fr L) (HN.out _) (slCells_one ob fr L) (by simp only [maxLen]; omega) (by omega) (by simp) ?_)
    | fail)
  intro v' w' hown hgr hnil hloc
  have hv : ∃ g cap, v' = .slice (some ⟨g, 0, none⟩) L cap ∧ CloneSl w w' g cap ob fr L := by
    have hlt := World.ownsRow.lt hown
    rcases hown.2 with ⟨e, _⟩ | ⟨g, cap, cur, rfl, h1, h2, h3, h4, h5, h6⟩
    · exact (hnil e).elim
    · refine ⟨g, cap, rfl, ⟨?_, h1, (hlt g rfl).2, by omega, fun q hq => ?_, fun i => by simp [World.frozen?, h2]⟩⟩
      · have hb1 : Below w.heap.size w (w.alloc (.cells #[] 139)) := Below.alloc0 _ _
        refine ⟨hgr.os.trans hb1.os, hgr.tape.trans hb1.tape, hgr.output.trans hb1.output, Nat.le_trans hb1.size hgr.size, fun k hk => ?_⟩
        rw [hgr.block k (by simp; omega) (by simp [Value.ownBlock]; omega)]
        exact hb1.block k hk
      · have h9 : ∀ j, j < L * 2 → w'.cell? ⟨g, j, none⟩ = (slCells ob fr L)[j]? := fun j hj => by
          have h8 : (cur.toList.take (L * 2))[j]? = (slCells ob fr L)[j]? := by rw [h6]
          rw [List.getElem?_take, if_pos (by omega)] at h8
          simp only [Array.getElem?_toList] at h8
          simp only [World.cell?, h2]
          exact h8
        rw [h9 _ (by omega), h9 _ (by omega)]
        exact slCells_at ob fr L q hq
  obtain ⟨g, cap, rfl, hc⟩ := hv
  have HC := hide hc
  clear hc hown hgr hnil hloc
  go_wp2_with fail
  go_ret
  exact ⟨g, cap, rfl, HC.out⟩
end Go.Proofs.YtcnmfljpmpgnjaaGreatDoor

namespace Go.Proofs.YtcnmfljpmpgnjaaGreatDoor
open Go.RowKit Go.Maps
open Tm (H Ob Sl Why)

/-- The first i slots of a frame are blank. -/
def popF (x fr : Nat → Int) (last : Int) (i q : Nat) : Int := if q < i ∧ fr q = last then 0 else x q
theorem popF_zero (x fr : Nat → Int) (last : Int) : popF x fr last 0 = x := by
  funext q; unfold popF; rw [if_neg (by omega)]
theorem popF_later (x fr : Nat → Int) (last : Int) (i q : Nat) (h : i ≤ q) : popF x fr last i q = x q := by unfold popF; rw [if_neg (by omega)]
theorem popF_other (x fr : Nat → Int) (last : Int) (i q : Nat) (h : q ≠ i) : popF x fr last (i + 1) q = popF x fr last i q := by
  unfold popF
  by_cases e : fr q = last
  · by_cases h2 : q < i
    · rw [if_pos ⟨by omega, e⟩, if_pos ⟨h2, e⟩]
    · rw [if_neg (by omega), if_neg (by omega)]
  · rw [if_neg (fun h => e h.2), if_neg (fun h => e h.2)]
theorem popF_hit (x fr : Nat → Int) (last : Int) (i : Nat) (h : fr i = last) : popF x fr last (i + 1) i = 0 := by unfold popF; rw [if_pos ⟨by omega, h⟩]
theorem popF_miss (x fr : Nat → Int) (last : Int) (i : Nat) (h : fr i ≠ last) : popF x fr last (i + 1) i = x i := by unfold popF; rw [if_neg (fun q => h q.2)]

/-- How far the clearing has come. -/
def PopInv (w : World) (g cap tg L : Nat) (ob fr : Nat → Int) (f : Int) (iv : Value) (wr : World) : Prop :=
  ∃ i : Nat, i ≤ L ∧ iv = .int .i64 i ∧ SlotsAt wr g (popF ob fr f i) (popF fr fr f i) L ∧ (∀ j, wr.frozen? ⟨g, j, none⟩ = false) ∧ wr.cell? ⟨w.heap.size, 0, none⟩ = some (.slice (some ⟨g, 0, none⟩) L cap) ∧ wr.cell? ⟨w.heap.size, 1, none⟩ = some (.slice (some ⟨tg, 0, none⟩) L L) ∧ wr.cell? ⟨w.heap.size, 2, none⟩ = some (.int .i64 (f - 1)) ∧
    (∀ j, j < 3 → ∃ u, wr.cell? ⟨w.heap.size + 1, j, none⟩ = some u) ∧ (∀ j, wr.frozen? ⟨w.heap.size + 1, j, none⟩ = false) ∧ Below w.heap.size w wr ∧ g < wr.heap.size ∧ w.heap.size + 2 ≤ wr.heap.size

/-- What 'popped' gives. -/
structure PopT (w w' : World) (g cap L : Nat) (ob fr : Nat → Int) (f : Int) : Prop where
  below : Below w.heap.size w w'
  lo : w.heap.size ≤ g
  hi : g < w'.heap.size
  cap : L ≤ cap
  at' : SlotsAt w' g (popF ob fr f L) (popF fr fr f L) L
  soft : ∀ i, w'.frozen? ⟨g, i, none⟩ = false

set_option maxRecDepth 100000 in
set_option maxHeartbeats 4000000 in
theorem popped_any (w : World) (b c tg : Nat) (ob fr : Nat → Int) (L : Nat) (f : Int) (hL : L ≤ 16) (hf : 1 ≤ f ∧ f ≤ 6) (hb : b < w.heap.size) (h : SlotsAt w b ob fr L) :
    Calls Tryz.prog 102 #[.agg #[.slice (some ⟨b, 0, none⟩) L c, .slice (some ⟨tg, 0, none⟩) L L, .int .i64 f]] w fun e w' => ∃ g cap, e = .returned (.agg #[.slice (some ⟨g, 0, none⟩) L cap, .slice (some ⟨tg, 0, none⟩) L L, .int .i64 (f - 1)]) ∧ PopT w w' g cap L ob fr f := by
  have HC : Hid (∀ x y, Calls Tryz.prog 130 #[.slice (some ⟨b, 0, none⟩) L c] ((w.alloc x).alloc y) fun e w' => ∃ g cap, e = .returned (.slice (some ⟨g, 0, none⟩) L cap) ∧ CloneSl ((w.alloc x).alloc y) w' g cap ob fr L) := fun x y =>
    cloneSl_any _ b c ob fr L hL (by simp; omega) (fun q hq => ⟨by rw [World.cell?_alloc_lt _ _ _ (by simp; omega), World.cell?_alloc_lt _ _ _ hb]; exact (h q hq).1, by rw [World.cell?_alloc_lt _ _ _ (by simp; omega), World.cell?_alloc_lt _ _ _ hb]; exact (h q hq).2⟩)
  clear h
  go_enter Tryz.func102, Tryz.ntmps102
  go_wp2_with fail
  refine (HC.out _ _).mono ?_
  rintro e w2 ⟨g, cap, rfl, hcl⟩
  have hlo : w.heap.size + 2 ≤ g := by have := hcl.lo; simpa using this
  have hz2 : w.heap.size + 2 ≤ w2.heap.size := by have := hcl.below.size; simpa using this
  have m0 : w2.cell? ⟨w.heap.size, 0, none⟩ = some (.slice (some ⟨b, 0, none⟩) L c) := by rw [hcl.below.cell (by simp; omega), World.cell?_alloc_lt _ _ _ (by simp), World.cell?_alloc_new]; rfl
  have m1 : w2.cell? ⟨w.heap.size, 1, none⟩ = some (.slice (some ⟨tg, 0, none⟩) L L) := by rw [hcl.below.cell (by simp; omega), World.cell?_alloc_lt _ _ _ (by simp), World.cell?_alloc_new]; rfl
  have m2 : w2.cell? ⟨w.heap.size, 2, none⟩ = some (.int .i64 (f - 1)) := by rw [hcl.below.cell (by simp; omega), World.cell?_alloc_lt _ _ _ (by simp), World.cell?_alloc_new]; rfl
  have mf : w2.frozen? ⟨w.heap.size, 0, none⟩ = false := by rw [hcl.below.frozen (by simp; omega), World.frozen?_alloc_past _ _ _ (by simp)]; exact World.frozen?_alloc_new _ _ _ _
  have n0 : w2.cell? ⟨w.heap.size + 1, 0, none⟩ = some (.slice none 0 0) := by rw [hcl.below.cell (by simp), World.cell?_alloc_at _ _ _ _ (by simp)]; rfl
  have n1 : w2.cell? ⟨w.heap.size + 1, 1, none⟩ = some (.slice none 0 0) := by rw [hcl.below.cell (by simp), World.cell?_alloc_at _ _ _ _ (by simp)]; rfl
  have n2 : w2.cell? ⟨w.heap.size + 1, 2, none⟩ = some (.int .i64 0) := by rw [hcl.below.cell (by simp), World.cell?_alloc_at _ _ _ _ (by simp)]; rfl
  have HNf : Hid (∀ j, w2.frozen? ⟨w.heap.size + 1, j, none⟩ = false) := fun j => by
    show _ = _
    rw [hcl.below.frozen (by simp)]; exact World.frozen?_alloc_at _ _ _ _ (by simp)
  have HBl : Hid (Below w.heap.size w w2) := ((Below.alloc0 w _).alloc (by simp) _).trans (hcl.below.mono (by simp; omega))
  have HCl := hide hcl
  have HSt : Hid (PopInv w g cap tg L ob fr f (.int .i64 0) (w2.setCell ⟨w.heap.size, 0, none⟩ (.slice (some ⟨g, 0, none⟩) L cap))) := by
    have oth : ∀ x i, x ≠ w.heap.size → (w2.setCell ⟨w.heap.size, 0, none⟩ (.slice (some ⟨g, 0, none⟩) L cap)).cell? ⟨x, i, none⟩ = w2.cell? ⟨x, i, none⟩ := fun x i hx => World.cell?_setCell_other _ _ _ _ (fun e => hx (congrArg Addr.block e).symm)
    have off : ∀ i, i ≠ 0 → (w2.setCell ⟨w.heap.size, 0, none⟩ (.slice (some ⟨g, 0, none⟩) L cap)).cell? ⟨w.heap.size, i, none⟩ = w2.cell? ⟨w.heap.size, i, none⟩ := fun i hi => World.cell?_setCell_other _ _ _ _ (fun e => hi (congrArg Addr.off e).symm)
    refine ⟨0, Nat.zero_le _, rfl, fun q hq => ?_, fun j => by rw [World.frozen?_setCell]; exact hcl.soft j, World.cell?_setCell_same _ _ _ m0, by rw [off 1 (by omega)]; exact m1, by rw [off 2 (by omega)]; exact m2, fun j hj => ?_, fun j => by rw [World.frozen?_setCell]; exact HNf.out j, HBl.out.setCell (Nat.le_refl _) _, by rw [World.size_setCell]; exact hcl.hi, by rw [World.size_setCell]; exact hz2⟩
    · rw [popF_zero, popF_zero, oth g _ (by omega), oth g _ (by omega)]; exact hcl.at' q hq
    · rw [oth _ _ (by omega)]
      rcases (show j = 0 ∨ j = 1 ∨ j = 2 by omega) with rfl | rfl | rfl
      · exact ⟨_, n0⟩
      · exact ⟨_, n1⟩
      · exact ⟨_, n2⟩
  have hcap := hcl.cap
  clear hcl n0 n1 n2
  go_wp2_with fail
  go_loopw [19] (fun iv wr => PopInv w g cap tg L ob fr f iv wr) (fun iv _ => L - (intOf iv).toNat)
  case atStart => exact HSt.out
  case round =>
    obtain ⟨i, hi, rfl, hsl, hsf, h0, h1, h2, h3, h4, hbl, hgl, hzl⟩ := hrel
    have HSl := hide hsl
    have HSf := hide hsf
    have H3 := hide h3
    have H4 := hide h4
    have HBr := hide hbl
    by_cases hlt : i < L
    · have bi : (i : Int) < (L : Int) := by omega
      have ci := (hsl i hlt).1
      have cf := (hsl i hlt).2
      rw [popF_later _ _ _ _ _ (Nat.le_refl _)] at ci cf
      have h0' : ∀ x, (wr.alloc x).cell? ⟨w.heap.size, 0, none⟩ = some (.slice (some ⟨g, 0, none⟩) L cap) := fun x => by rw [World.cell?_alloc_lt _ _ _ (show w.heap.size < wr.heap.size by omega)]; exact h0
      have hcl : ∀ x ty c', (Builtin.clear_ #[132] ty #[.slice (some ⟨g, i * 2, none⟩) 1 c']).run Tryz.prog (wr.alloc x) = .ok (.tuple #[]) (((wr.alloc x).setCell ⟨g, i * 2, none⟩ (.int .i64 0)).setCell ⟨g, i * 2 + 1, none⟩ (.int .i64 0)) := fun x ty c' => clear_slot _ ty _ _ c' (by rw [World.cell?_alloc_lt _ _ _ hgl, ci]; rfl) (by rw [World.cell?_alloc_lt _ _ _ hgl, cf]; rfl) (by rw [World.frozen?_alloc_past _ _ _ hgl]; exact hsf _) (by rw [World.frozen?_alloc_past _ _ _ hgl]; exact hsf _)
      have b2 : (i : Int) + 1 ≤ (cap : Int) := by omega
      have HEnd : Hid (∀ x, (fr i ≠ f → PopInv w g cap tg L ob fr f (.int .i64 ((i : Int) + 1)) (wr.alloc x)) ∧ (fr i = f → PopInv w g cap tg L ob fr f (.int .i64 ((i : Int) + 1)) (((wr.alloc x).setCell ⟨g, i * 2, none⟩ (.int .i64 0)).setCell ⟨g, i * 2 + 1, none⟩ (.int .i64 0)))) := fun x => by
        have al : ∀ y j, y < wr.heap.size → (wr.alloc x).cell? ⟨y, j, none⟩ = wr.cell? ⟨y, j, none⟩ := fun y j hy => World.cell?_alloc_lt _ _ _ hy
        have fz : ∀ y j, y < wr.heap.size → (wr.alloc x).frozen? ⟨y, j, none⟩ = wr.frozen? ⟨y, j, none⟩ := fun y j hy => World.frozen?_alloc_past _ _ _ hy
        have hba : Below w.heap.size w (wr.alloc x) := HBr.out.trans ((Below.alloc0 wr x).mono (by omega))
        refine ⟨fun hne => ⟨i + 1, by omega, rfl, fun q hq => ?_, fun j => by rw [fz _ _ hgl]; exact HSf.out j, h0' x, by rw [al _ _ (by omega)]; exact h1, by rw [al _ _ (by omega)]; exact h2, fun j hj => by rw [al _ _ (by omega)]; exact H3.out j hj, fun j => by rw [fz _ _ (by omega)]; exact H4.out j, hba, by simp; omega, by simp; omega⟩, fun he => ⟨i + 1, by omega, rfl, fun q hq => ?_, fun j => by rw [World.frozen?_setCell, World.frozen?_setCell, fz _ _ hgl]; exact HSf.out j, ?_, ?_, ?_, fun j hj => ?_, fun j => by rw [World.frozen?_setCell, World.frozen?_setCell, fz _ _ (by omega)]; exact H4.out j, (hba.setCell (by show w.heap.size ≤ g; omega) _).setCell (by show w.heap.size ≤ g; omega) _, by simp; omega, by simp; omega⟩⟩
        · rw [al _ _ hgl, al _ _ hgl]
          by_cases e : q = i
          · subst e; rw [popF_miss _ _ _ _ hne, popF_miss _ _ _ _ hne]
            have := HSl.out q hq
            rw [popF_later _ _ _ _ _ (Nat.le_refl _), popF_later _ _ _ _ _ (Nat.le_refl _)] at this
            exact this
          · rw [popF_other _ _ _ _ _ e, popF_other _ _ _ _ _ e]; exact HSl.out q hq
        · have off : ∀ {x y : Nat}, x ≠ y → (⟨g, x, none⟩ : Addr) ≠ ⟨g, y, none⟩ := fun h e => h (congrArg Addr.off e)
          by_cases e : q = i
          · subst e; rw [popF_hit _ _ _ _ he, popF_hit _ _ _ _ he]
            refine ⟨?_, World.cell?_setCell_same _ _ _ (show _ = some (.int .i64 (fr q)) from by rw [World.cell?_setCell_other _ ⟨g, q * 2, none⟩ ⟨g, q * 2 + 1, none⟩ _ (off (by omega)), al _ _ hgl]; exact cf)⟩
            rw [World.cell?_setCell_other _ ⟨g, q * 2 + 1, none⟩ ⟨g, q * 2, none⟩ _ (off (by omega))]
            exact World.cell?_setCell_same _ _ _ (show _ = some (.int .i64 (ob q)) from by rw [al _ _ hgl]; exact ci)
          · rw [popF_other _ _ _ _ _ e, popF_other _ _ _ _ _ e, World.cell?_setCell_other _ _ _ _ (off (by omega)), World.cell?_setCell_other _ _ _ _ (off (by omega)), World.cell?_setCell_other _ _ _ _ (off (by omega)), World.cell?_setCell_other _ _ _ _ (off (by omega)), al _ _ hgl, al _ _ hgl]
            exact HSl.out q hq
        · rw [World.cell?_setCell_other _ _ _ _ (fun e => by have := congrArg Addr.block e; simp at this; omega), World.cell?_setCell_other _ _ _ _ (fun e => by have := congrArg Addr.block e; simp at this; omega)]; exact h0' x
        · rw [World.cell?_setCell_other _ _ _ _ (fun e => by have := congrArg Addr.block e; simp at this; omega), World.cell?_setCell_other _ _ _ _ (fun e => by have := congrArg Addr.block e; simp at this; omega), al _ _ (by omega)]; exact h1
        · rw [World.cell?_setCell_other _ _ _ _ (fun e => by have := congrArg Addr.block e; simp at this; omega), World.cell?_setCell_other _ _ _ _ (fun e => by have := congrArg Addr.block e; simp at this; omega), al _ _ (by omega)]; exact h2
        · rw [World.cell?_setCell_other _ _ _ _ (fun e => by have := congrArg Addr.block e; simp at this; omega), World.cell?_setCell_other _ _ _ _ (fun e => by have := congrArg Addr.block e; simp at this; omega), al _ _ (by omega)]; exact H3.out j hj
      clear hsl hsf h3 h4 hbl
      by_cases hfr : fr i = f
      · have hfr' : (fr i == f) = true := by simpa using hfr
        have HFr := hide hfr
        clear hfr
        go_wp2_with fail
        go_roundw
        case rel =>
          have q := (HEnd.out (.cells #[.int .i64 (ob i), .int .i64 (fr i)] 139)).2 HFr.out
          rw [World.setCell_alloc_past _ _ _ _ hgl, World.setCell_alloc_past _ _ _ _ (by rw [World.size_setCell]; exact hgl)] at q
          exact q
        case measure => simp [intOf]; omega
      · have hfr' : (fr i == f) = false := by simpa using hfr
        have HFr := hide hfr
        clear hfr
        go_wp2_with fail
        go_roundw
        case rel => exact (HEnd.out _).1 HFr.out
        case measure => simp [intOf]; omega
    · have bi : ¬ (i : Int) < (L : Int) := by omega
      obtain rfl : i = L := by omega
      obtain ⟨u0, y0⟩ := h3 0 (by omega)
      obtain ⟨u1, y1⟩ := h3 1 (by omega)
      obtain ⟨u2, y2⟩ := h3 2 (by omega)
      have z0 := h4 0
      have z1 := h4 1
      have z2 := h4 2
      clear hsl hsf h3 h4 hbl
      go_wp2_with fail
      obtain ⟨W, eW⟩ : ∃ W, ((wr.setCell ⟨w.heap.size + 1, 0, none⟩ (.slice (some ⟨g, 0, none⟩) i cap)).setCell ⟨w.heap.size + 1, 1, none⟩ (.slice (some ⟨tg, 0, none⟩) i i)).setCell ⟨w.heap.size + 1, 2, none⟩ (.int .i64 (f - 1)) = W := ⟨_, rfl⟩
      have off : ∀ {x y : Nat}, x ≠ y → (⟨w.heap.size + 1, x, none⟩ : Addr) ≠ ⟨w.heap.size + 1, y, none⟩ := fun h e => h (congrArg Addr.off e)
      have oth := fun (w' : World) (x y : Nat) (v : Value) (h : x ≠ y) => World.cell?_setCell_other w' ⟨w.heap.size + 1, x, none⟩ ⟨w.heap.size + 1, y, none⟩ v (off h)
      have k0 : W.cell? ⟨w.heap.size + 1, 0, none⟩ = some (.slice (some ⟨g, 0, none⟩) i cap) := by rw [← eW, oth _ _ _ _ (by omega), oth _ _ _ _ (by omega)]; exact World.cell?_setCell_same _ _ _ y0
      have k1 : W.cell? ⟨w.heap.size + 1, 1, none⟩ = some (.slice (some ⟨tg, 0, none⟩) i i) := by rw [← eW, oth _ _ _ _ (by omega)]; exact World.cell?_setCell_same _ _ _ (by rw [oth _ _ _ _ (by omega)]; exact y1)
      have k2 : W.cell? ⟨w.heap.size + 1, 2, none⟩ = some (.int .i64 (f - 1)) := by rw [← eW]; exact World.cell?_setCell_same _ _ _ (by rw [oth _ _ _ _ (by omega), oth _ _ _ _ (by omega)]; exact y2)
      have hset : W.heap[g]? = wr.heap[g]? := by
        rw [← eW, Below.heap_setCell _ _ _ _ (show g ≠ w.heap.size + 1 by omega), Below.heap_setCell _ _ _ _ (show g ≠ w.heap.size + 1 by omega), Below.heap_setCell _ _ _ _ (show g ≠ w.heap.size + 1 by omega)]
      have hbW : Below w.heap.size w W := by rw [← eW]; exact ((HBr.out.setCell (Nat.le_succ _) _).setCell (Nat.le_succ _) _).setCell (Nat.le_succ _) _
      have hzW : W.heap.size = wr.heap.size := by rw [← eW, World.size_setCell, World.size_setCell, World.size_setCell]
      rw [eW]
      clear eW
      refine bodyPost_ret (v := .agg #[.slice (some ⟨g, 0, none⟩) i cap, .slice (some ⟨tg, 0, none⟩) i i, .int .i64 (f - 1)]) ?_ rfl ⟨g, cap, rfl, hbW, by omega, by omega, hcap, fun q hq => by rw [cell_of hset, cell_of hset]; exact HSl.out q hq, fun j => by rw [frozen_of hset]; exact HSf.out j⟩
      simp [results, Tryz.results102, go_sem, k0, k1, k2]
end Go.Proofs.YtcnmfljpmpgnjaaGreatDoor

namespace Go.Proofs.YtcnmfljpmpgnjaaGreatDoor
open Go.RowKit Go.Maps
open Tm (H Ob Sl Why)

def obOf (h : H) (q : Nat) : Int := (h.sl 1 q).ob
def frsOf (h : H) (q : Nat) : Int := frOf 1 (h.sl 1 q)
theorem pop_ob (h : H) (hf : h.frames ≠ 0) (q : Nat) (hq : q < (h.t 1).length) : popF (obOf h) (frsOf h) h.frames (h.t 1).length q = (Tm.popSl h.frames (h.sl 1 q)).ob ∧ popF (frsOf h) (frsOf h) h.frames (h.t 1).length q = frOf 1 (Tm.popSl h.frames (h.sl 1 q)) := by
  have e1 : ∀ s : Sl, frOf 1 s = if s.ob = 0 then 0 else s.frame := fun s => by unfold frOf; rw [if_pos rfl]
  unfold popF obOf frsOf Tm.popSl
  rw [e1, e1]
  generalize h.sl 1 q = s
  have hf' : ¬ (0 = h.frames) := fun e => hf e.symm
  by_cases h0 : s.ob = 0
  · by_cases h1 : s.frame = h.frames
    · simp [h0, h1, hf']
    · simp [h0, h1, hf']
  · by_cases h1 : s.frame = h.frames
    · simp [h0, h1, hq]
    · simp [h0, h1]

section
variable {S : Nat → Prop} {tag : Nat → Nat × Nat} {w w1 w2 : World} {a : Nat} {Y : PLay} {h : H}

theorem PRep.slotsAt (r : PRep S tag w a Y h) : SlotsAt w (Y.to 1) (obOf h) (frsOf h) (h.t 1).length := fun q hq => ⟨(r.tab 1 (by omega) (by omega)).ob q hq, (r.tab 1 (by omega) (by omega)).fr q hq⟩

/-- Three cells of the tables are written. -/
def setT (w : World) (bt : Nat) (x y : Value) (f : Int) : World := ((w.setCell ⟨bt, 3, none⟩ x).setCell ⟨bt, 4, none⟩ y).setCell ⟨bt, 5, none⟩ (.int .i64 f)
theorem setT_heap (w : World) (bt : Nat) (x y : Value) (f : Int) (b : Nat) (h : b ≠ bt) : (setT w bt x y f).heap[b]? = w.heap[b]? := by
  unfold setT; rw [Below.heap_setCell _ _ _ _ h, Below.heap_setCell _ _ _ _ h, Below.heap_setCell _ _ _ _ h]
theorem setT_frozen (w : World) (bt : Nat) (x y : Value) (f : Int) (p : Addr) : (setT w bt x y f).frozen? p = w.frozen? p := by
  unfold setT; rw [World.frozen?_setCell, World.frozen?_setCell, World.frozen?_setCell]
theorem setT_size (w : World) (bt : Nat) (x y : Value) (f : Int) : (setT w bt x y f).heap.size = w.heap.size := by
  unfold setT; rw [World.size_setCell, World.size_setCell, World.size_setCell]
theorem setT_cell {w : World} {bt : Nat} (x y : Value) (f : Int) {u3 u4 u5 : Value} (h3 : w.cell? ⟨bt, 3, none⟩ = some u3) (h4 : w.cell? ⟨bt, 4, none⟩ = some u4) (h5 : w.cell? ⟨bt, 5, none⟩ = some u5) :
    (setT w bt x y f).cell? ⟨bt, 3, none⟩ = some x ∧ (setT w bt x y f).cell? ⟨bt, 4, none⟩ = some y ∧ (setT w bt x y f).cell? ⟨bt, 5, none⟩ = some (.int .i64 f) ∧ ∀ i, i ≠ 3 → i ≠ 4 → i ≠ 5 → (setT w bt x y f).cell? ⟨bt, i, none⟩ = w.cell? ⟨bt, i, none⟩ := by
  have off : ∀ {x y : Nat}, x ≠ y → (⟨bt, x, none⟩ : Addr) ≠ ⟨bt, y, none⟩ := fun h e => h (congrArg Addr.off e)
  unfold setT
  refine ⟨?_, ?_, ?_, fun i h1 h2 h3 => ?_⟩
  · rw [World.cell?_setCell_other _ _ _ _ (off (by omega)), World.cell?_setCell_other _ _ _ _ (off (by omega))]; exact World.cell?_setCell_same _ _ _ h3
  · rw [World.cell?_setCell_other _ _ _ _ (off (by omega))]; exact World.cell?_setCell_same _ _ _ (by rw [World.cell?_setCell_other _ _ _ _ (off (by omega))]; exact h4)
  · exact World.cell?_setCell_same _ _ _ (by rw [World.cell?_setCell_other _ _ _ _ (off (by omega)), World.cell?_setCell_other _ _ _ _ (off (by omega))]; exact h5)
  · rw [World.cell?_setCell_other _ _ _ _ (off (by omega)), World.cell?_setCell_other _ _ _ _ (off (by omega)), World.cell?_setCell_other _ _ _ _ (off (by omega))]

/-- The frame has gone. -/
theorem pop_store {g cap : Nat} (r : PRep S tag w a Y h) (hf : h.frames ≠ 1) (hb : Below w.heap.size w w1) (p : PopT w1 w2 g cap (h.t 1).length (obOf h) (frsOf h) h.frames) :
    PRep (fun b => S b ∨ b = g) (fun b => if b = g then (4, 1) else tag b) (setT w2 Y.bt (.slice (some ⟨g, 0, none⟩) (h.t 1).length cap) (.slice (some ⟨Y.tg 1, 0, none⟩) (h.t 1).length (h.t 1).length) (h.frames - 1)) a { Y with to := fun k => if k = 1 then g else Y.to k } h.popF := by
  have t := r.tab 1 (by omega) (by omega)
  obtain ⟨c, c3, _⟩ := t.ho
  have c4 := t.hg
  have c5 := t.hf
  have hbt := r.lt _ r.st.1
  have hz := hb.size
  have hz2 := p.below.size
  have hgl := p.lo
  have e2 : ∀ x, x < w.heap.size → w2.heap[x]? = w.heap[x]? := fun x hx => (p.below.block x (by omega)).trans (hb.block x hx)
  have d3 : w2.cell? ⟨Y.bt, 3, none⟩ = _ := (cell_of (e2 _ hbt)).trans c3
  have d4 : w2.cell? ⟨Y.bt, 4, none⟩ = _ := (cell_of (e2 _ hbt)).trans c4
  have d5 : w2.cell? ⟨Y.bt, 5, none⟩ = _ := (cell_of (e2 _ hbt)).trans c5
  obtain ⟨k3, k4, k5, ko⟩ := setT_cell (.slice (some ⟨g, 0, none⟩) (h.t 1).length cap) (.slice (some ⟨Y.tg 1, 0, none⟩) (h.t 1).length (h.t 1).length) (h.frames - 1) d3 d4 d5
  have hgbt : g ≠ Y.bt := by omega
  have hfr := r.good.frames
  refine r.popF g cap (fun q => by have := r.lt _ q; omega) (by rw [setT_size]; exact p.hi) (r.good.popF hf) (by rw [setT_size]; omega) (fun b hb' hne => by rw [setT_heap _ _ _ _ _ _ hne]; exact e2 b (r.lt b hb')) (fun b i hb' => ?_) k3 p.cap k5 (fun i h1 h2 => ?_) (fun i hi => ?_) (fun i hi => ?_)
  · rw [setT_frozen]
    rcases hb' with hb' | rfl
    · rw [frozen_of (e2 b (r.lt b hb'))]; exact r.soft b i hb'
    · exact p.soft i
  · by_cases h4' : i = 4
    · subst h4'; rw [k4]; exact c4.symm
    · rw [ko i h1 h4' h2]; exact cell_of (e2 _ hbt)
  · rw [cell_of (setT_heap _ _ _ _ _ _ hgbt), (p.at' i hi).1, (pop_ob h (by omega) i hi).1]
  · rw [cell_of (setT_heap _ _ _ _ _ _ hgbt), (p.at' i hi).2, (pop_ob h (by omega) i hi).2]

/-- The table is put back. -/
theorem pop_back {W' : World} (r : PRep S tag w a Y h) (hk : ∀ b, S b → b ≠ Y.bt → W'.heap[b]? = w.heap[b]?) (hc : ∀ i, W'.cell? ⟨Y.bt, i, none⟩ = w.cell? ⟨Y.bt, i, none⟩) (hf : ∀ i, W'.frozen? ⟨Y.bt, i, none⟩ = false) (hz : w.heap.size ≤ W'.heap.size) : PRep S tag W' a Y h := by
  have h3 : ∀ b, S b → (tag b).1 ≠ 3 → W'.heap[b]? = w.heap[b]? := fun b hb h1 => hk b hb (fun e => h1 (by rw [e, r.st.2]))
  refine ⟨r.good, fun b hb => Nat.lt_of_lt_of_le (r.lt b hb) hz, fun b i hb => ?_, r.base.same (fun b hb q => h3 b hb (by omega)), r.sto.same (fun b hb q => h3 b hb (by omega)), r.st, r.objSame (fun b hb q => h3 b hb (by omega)), fun k h0 h4 => ?_⟩
  · by_cases e : b = Y.bt
    · subst e; exact hf i
    · rw [frozen_of (hk b hb e)]; exact r.soft b i hb
  · have t := r.tab k h0 h4
    have no := h3 (Y.to k) t.so (by rw [t.tago]; simp)
    have ng := h3 (Y.tg k) t.sg (by rw [t.tagg]; simp)
    obtain ⟨c, c1, c2⟩ := t.ho
    exact ⟨t.so, t.sg, ⟨c, by rw [hc]; exact c1, c2⟩, by rw [hc]; exact t.hg, by rw [hc]; exact t.hf, t.tago, t.tagg, fun i hi => by rw [cell_of no]; exact t.ob i hi, fun i hi => by rw [cell_of no]; exact t.fr i hi, fun i hi => by rw [cell_of ng]; exact t.gen i hi⟩
end
end Go.Proofs.YtcnmfljpmpgnjaaGreatDoor

namespace Go.Proofs.YtcnmfljpmpgnjaaGreatDoor
open Go.RowKit Go.Maps
open Tm (H Ob Sl Why)

/-- What 'Pop' of the tables leaves. -/
def TPopPost (S : Nat → Prop) (w : World) (a : Nat) (A : Nat → Addr) (n : Int) (y : Why) (h' : H) (e : Ending) (w' : World) : Prop :=
  ∃ ev S', e = .returned (.tuple #[.int .i64 n, ev]) ∧ InErr A w' ev y ∧ PR S' w' a h' ∧ Kept S w w' ∧ (∀ b, S b → S' b) ∧ ∀ b, S' b → S b ∨ w.heap.size ≤ b

set_option maxRecDepth 100000 in
set_option maxHeartbeats 4000000 in
theorem popT_zero {S : Nat → Prop} {tag : Nat → Nat × Nat} {w : World} {a : Nat} {Y : PLay} {h : H} {A : Nat → Addr} (r : PRep S tag w a Y h) (hf1 : h.frames ≠ 1) :
    Calls Tryz.prog 75 #[.pointer (some ⟨Y.bt, 0, none⟩), .int .i64 0] w (TPopPost S w a A 0 Tm.fine h.popF) := by
  have t := r.tab 1 (by omega) (by omega)
  obtain ⟨c, c3, hLc⟩ := t.ho
  have c3 : w.cell? ⟨Y.bt, 3, none⟩ = some (.slice (some ⟨Y.to 1, 0, none⟩) (h.t 1).length c) := c3
  have c4 : w.cell? ⟨Y.bt, 4, none⟩ = some (.slice (some ⟨Y.tg 1, 0, none⟩) (h.t 1).length (h.t 1).length) := t.hg
  have c5 : w.cell? ⟨Y.bt, 5, none⟩ = some (.int .i64 h.frames) := t.hf
  have hbt := r.lt _ r.st.1
  have hto := r.lt _ t.so
  have hfr := r.good.frames
  have HSoft := hide (fun i => r.soft _ i r.st.1)
  have HP : Hid (∀ w1, Below w.heap.size w w1 → Calls Tryz.prog 102 #[.agg #[.slice (some ⟨Y.to 1, 0, none⟩) (h.t 1).length c, .slice (some ⟨Y.tg 1, 0, none⟩) (h.t 1).length (h.t 1).length, .int .i64 h.frames]] w1 fun e w' => ∃ g cap, e = .returned (.agg #[.slice (some ⟨g, 0, none⟩) (h.t 1).length cap, .slice (some ⟨Y.tg 1, 0, none⟩) (h.t 1).length (h.t 1).length, .int .i64 (h.frames - 1)]) ∧ PopT w1 w' g cap (h.t 1).length (obOf h) (frsOf h) h.frames) := fun w1 hb =>
    popped_any w1 (Y.to 1) c (Y.tg 1) (obOf h) (frsOf h) (h.t 1).length h.frames (r.good.tabs 1) hfr (Nat.lt_of_lt_of_le hto hb.size) (fun q hq => by rw [hb.cell hto, hb.cell hto]; exact r.slotsAt q hq)
  have HR := hide r
  have HFin : Hid (∀ w1 w2 g cap, Below w.heap.size w w1 → PopT w1 w2 g cap (h.t 1).length (obOf h) (frsOf h) h.frames → PRep (fun b => S b ∨ b = g) (fun b => if b = g then (4, 1) else tag b) (setT w2 Y.bt (.slice (some ⟨g, 0, none⟩) (h.t 1).length cap) (.slice (some ⟨Y.tg 1, 0, none⟩) (h.t 1).length (h.t 1).length) (h.frames - 1)) a { Y with to := fun k => if k = 1 then g else Y.to k } h.popF) := fun w1 w2 g cap hb hp => pop_store r hf1 hb hp
  unfold setT at HFin
  have HBtS := hide r.st.1
  generalize hpF : h.popF = hh at *
  clear hpF
  clear r t hLc
  generalize hLdef : (h.t 1).length = L at *
  generalize hfdef : h.frames = f at *
  go_enter Tryz.func75, Tryz.ntmps75
  go_wp2_with fail
  have HB0 : Hid (Below w.heap.size w (w.alloc (.cells #[.slice (some ⟨Y.to 1, 0, none⟩) L c, .slice (some ⟨Y.tg 1, 0, none⟩) L L, .int .i64 f] 134)).drew) := (Below.alloc0 w _).trans ⟨rfl, rfl, rfl, Nat.le_refl _, fun _ _ => rfl⟩
  have hnbt : Y.bt ≠ w.heap.size := by omega
  go_region_held3 (fun w' => w'.cell? ⟨w.heap.size, 0, none⟩ = some (.slice (some ⟨Y.to 1, 0, none⟩) L c) ∧ w'.cell? ⟨w.heap.size, 1, none⟩ = some (.slice (some ⟨Y.tg 1, 0, none⟩) L L) ∧ w'.cell? ⟨w.heap.size, 2, none⟩ = some (.int .i64 f)) (first | (with_reducible exact ⟨by assumption, by assumption, by assumption⟩) | (refine ⟨?_, ?_, ?_⟩ <;> (repeat rw [World.cell?_setCell_other _ _ _ _ (fun e => hnbt (congrArg Addr.block e))]) <;> (with_reducible assumption)) | go_keep) (first
    | (go_at_call 102
       refine (HP.out _ HB0.out).mono ?_
       rintro e w2 ⟨g, cap, rfl, hp⟩
       have hzp : w.heap.size + 1 ≤ w2.heap.size := by have := hp.below.size; simpa using this
       have e2 : ∀ x, x < w.heap.size → w2.heap[x]? = w.heap[x]? := fun x hx => (hp.below.block x (by simp; omega)).trans (HB0.out.block x hx)
       have d3 : w2.cell? ⟨Y.bt, 3, none⟩ = some (.slice (some ⟨Y.to 1, 0, none⟩) L c) := (cell_of (e2 _ hbt)).trans c3
       have d4 : w2.cell? ⟨Y.bt, 4, none⟩ = some (.slice (some ⟨Y.tg 1, 0, none⟩) L L) := (cell_of (e2 _ hbt)).trans c4
       have d5 : w2.cell? ⟨Y.bt, 5, none⟩ = some (.int .i64 f) := (cell_of (e2 _ hbt)).trans c5
       have x3 : w2.frozen? ⟨Y.bt, 3, none⟩ = false := (frozen_of (e2 _ hbt)).trans (HSoft.out 3)
       have x4 : w2.frozen? ⟨Y.bt, 4, none⟩ = false := (frozen_of (e2 _ hbt)).trans (HSoft.out 4)
       have x5 : w2.frozen? ⟨Y.bt, 5, none⟩ = false := (frozen_of (e2 _ hbt)).trans (HSoft.out 5)
       have v0 : w2.cell? ⟨w.heap.size, 0, none⟩ = some (.slice (some ⟨Y.to 1, 0, none⟩) L c) := by rw [hp.below.cell (by simp)]; show (w.alloc _).cell? _ = _; rw [World.cell?_alloc_new]; rfl
       have v1 : w2.cell? ⟨w.heap.size, 1, none⟩ = some (.slice (some ⟨Y.tg 1, 0, none⟩) L L) := by rw [hp.below.cell (by simp)]; show (w.alloc _).cell? _ = _; rw [World.cell?_alloc_new]; rfl
       have v2 : w2.cell? ⟨w.heap.size, 2, none⟩ = some (.int .i64 f) := by rw [hp.below.cell (by simp)]; show (w.alloc _).cell? _ = _; rw [World.cell?_alloc_new]; rfl
       have HPt := hide hp
       have HE2 := hide e2
       clear hp e2)
    | fail)
  all_goals go_wp2_with fail
  all_goals go_ret2
  all_goals
    have hg := HPt.out.lo
    have hf := HFin.out _ _ _ _ HB0.out HPt.out
    refine ⟨_, _, rfl, Or.inl ⟨rfl, rfl⟩, ⟨_, _, hf⟩, ?_, fun b hb => Or.inl hb, fun b hb => ?_⟩
    · refine Kept.setCell (Kept.setCell (Kept.setCell ?_ (Or.inl HBtS.out) _) (Or.inl HBtS.out) _) (Or.inl HBtS.out) _
      exact Kept.of_below (HB0.out.trans (HPt.out.below.mono (by simp)))
    · rcases hb with hb | rfl
      · exact Or.inl hb
      · exact Or.inr (by simp at hg; omega)

theorem take_pop {S : Nat → Prop} {tag : Nat → Nat × Nat} {w : World} {a : Nat} {Y : PLay} {g : H} (r : PRep S tag w a Y g) (hf : 0 ≤ g.free 1) (n : Int) (hn : 0 < n) (hn2 : n ≤ (g.l.length : Int)) (ha : (g.ob n).gone = false) :
    ∃ i : Nat, g.free 1 = (i : Int) ∧ Calls Tryz.prog 88 #[.pointer (some ⟨Y.bt, 0, none⟩), .int .i64 1, .int .i64 (i : Int), .int .i64 n] w fun e w' => e = .returned (.int .i64 (g.take 1 n).1) ∧ PR S w' a (g.take 1 n).2 ∧ Kept S w w' := by
  obtain ⟨i, h1, h2, h3, h4, h5⟩ := take_good r.good 1 n hf hn hn2 ha
  have h6 := h3
  rw [h4] at h6
  refine ⟨i, h2, (takeT_any r 1 i n (by omega) (by omega) h1).mono ?_⟩
  rintro e w' ⟨rfl, d, rfl⟩
  have q := r.took 1 i d n (by omega) (by omega) h1 (by omega) h6
  exact ⟨by rw [h5], ⟨tag, Y, by rw [h4]; exact q.1⟩, q.2⟩

set_option maxRecDepth 100000 in
set_option maxHeartbeats 4000000 in
theorem popT_some {S : Nat → Prop} {tag : Nat → Nat × Nat} {w : World} {a : Nat} {Y : PLay} {h : H} {N : Nat} {A : Nat → Addr} (hE : Errs N A w) (hS : ∀ b, S b → N ≤ b) (r : PRep S tag w a Y h) (hf1 : h.frames ≠ 1) (n : Int) (hn : 0 < n) (hn2 : n ≤ (h.l.length : Int)) (ha : (h.ob n).gone = false) (hfree : 0 ≤ h.popF.free 1) :
    Calls Tryz.prog 75 #[.pointer (some ⟨Y.bt, 0, none⟩), .int .i64 n] w (TPopPost S w a A (h.popF.take 1 n).1 Tm.fine (h.popF.take 1 n).2) := by
  have t := r.tab 1 (by omega) (by omega)
  obtain ⟨c, c3, hLc⟩ := t.ho
  have c3 : w.cell? ⟨Y.bt, 3, none⟩ = some (.slice (some ⟨Y.to 1, 0, none⟩) (h.t 1).length c) := c3
  have c4 : w.cell? ⟨Y.bt, 4, none⟩ = some (.slice (some ⟨Y.tg 1, 0, none⟩) (h.t 1).length (h.t 1).length) := t.hg
  have c5 : w.cell? ⟨Y.bt, 5, none⟩ = some (.int .i64 h.frames) := t.hf
  have hbt := r.lt _ r.st.1
  have hto := r.lt _ t.so
  have hfr := r.good.frames
  have HSoft := hide (fun i => r.soft _ i r.st.1)
  have HP : Hid (∀ w1, Below w.heap.size w w1 → Calls Tryz.prog 102 #[.agg #[.slice (some ⟨Y.to 1, 0, none⟩) (h.t 1).length c, .slice (some ⟨Y.tg 1, 0, none⟩) (h.t 1).length (h.t 1).length, .int .i64 h.frames]] w1 fun e w' => ∃ g cap, e = .returned (.agg #[.slice (some ⟨g, 0, none⟩) (h.t 1).length cap, .slice (some ⟨Y.tg 1, 0, none⟩) (h.t 1).length (h.t 1).length, .int .i64 (h.frames - 1)]) ∧ PopT w1 w' g cap (h.t 1).length (obOf h) (frsOf h) h.frames) := fun w1 hb =>
    popped_any w1 (Y.to 1) c (Y.tg 1) (obOf h) (frsOf h) (h.t 1).length h.frames (r.good.tabs 1) hfr (Nat.lt_of_lt_of_le hto hb.size) (fun q hq => by rw [hb.cell hto, hb.cell hto]; exact r.slotsAt q hq)
  have HR := hide r
  have HFin : Hid (∀ w1 w2 g cap, Below w.heap.size w w1 → PopT w1 w2 g cap (h.t 1).length (obOf h) (frsOf h) h.frames → PRep (fun b => S b ∨ b = g) (fun b => if b = g then (4, 1) else tag b) (setT w2 Y.bt (.slice (some ⟨g, 0, none⟩) (h.t 1).length cap) (.slice (some ⟨Y.tg 1, 0, none⟩) (h.t 1).length (h.t 1).length) (h.frames - 1)) a { Y with to := fun k => if k = 1 then g else Y.to k } h.popF) := fun w1 w2 g cap hb hp => pop_store r hf1 hb hp
  have HKp : Hid (∀ w1 w2 g cap, Below w.heap.size w w1 → PopT w1 w2 g cap (h.t 1).length (obOf h) (frsOf h) h.frames → Kept S w (setT w2 Y.bt (.slice (some ⟨g, 0, none⟩) (h.t 1).length cap) (.slice (some ⟨Y.tg 1, 0, none⟩) (h.t 1).length (h.t 1).length) (h.frames - 1))) := fun w1 w2 g cap hb hp => by
    unfold setT
    refine Kept.setCell (Kept.setCell (Kept.setCell ?_ (Or.inl r.st.1) _) (Or.inl r.st.1) _) (Or.inl r.st.1) _
    exact Kept.of_below (hb.trans (hp.below.mono hb.size))
  have HVa : ∀ w1 w2 g cap, Below w.heap.size w w1 → PopT w1 w2 g cap (h.t 1).length (obOf h) (frsOf h) h.frames → Calls Tryz.prog 87 #[.pointer (some ⟨Y.bt, 0, none⟩), .int .i64 1] (setT w2 Y.bt (.slice (some ⟨g, 0, none⟩) (h.t 1).length cap) (.slice (some ⟨Y.tg 1, 0, none⟩) (h.t 1).length (h.t 1).length) (h.frames - 1)) (VacPost A (setT w2 Y.bt (.slice (some ⟨g, 0, none⟩) (h.t 1).length cap) (.slice (some ⟨Y.tg 1, 0, none⟩) (h.t 1).length (h.t 1).length) (h.frames - 1)) (h.popF.free 1)) := fun w1 w2 g cap hb hp => by
    have rp := HFin.out w1 w2 g cap hb hp
    exact vacant_any (k := 1) (hE.off (HKp.out w1 w2 g cap hb hp) hS) (rp.tab 1 (by omega) (by omega)) rp.lt (rp.lt _ rp.st.1) (by omega) (rp.good.tabs 1)
  have hi := ifaceE
  have hn0 : (n == 0) = false := beq_eq_false_iff_ne.2 (by omega)
  unfold VacPost at HVa
  simp only [if_neg (show ¬ h.popF.free 1 < 0 by omega)] at HVa
  have HVa := hide HVa
  have HTk : Hid (∀ w1 w2 g cap w3, Below w.heap.size w w1 → PopT w1 w2 g cap (h.t 1).length (obOf h) (frsOf h) h.frames → Below (setT w2 Y.bt (.slice (some ⟨g, 0, none⟩) (h.t 1).length cap) (.slice (some ⟨Y.tg 1, 0, none⟩) (h.t 1).length (h.t 1).length) (h.frames - 1)).heap.size (setT w2 Y.bt (.slice (some ⟨g, 0, none⟩) (h.t 1).length cap) (.slice (some ⟨Y.tg 1, 0, none⟩) (h.t 1).length (h.t 1).length) (h.frames - 1)) w3 → ∃ i : Nat, h.popF.free 1 = (i : Int) ∧ Calls Tryz.prog 88 #[.pointer (some ⟨Y.bt, 0, none⟩), .int .i64 1, .int .i64 (i : Int), .int .i64 n] w3 fun e w' => e = .returned (.int .i64 (h.popF.take 1 n).1) ∧ PR (fun b => S b ∨ b = g) w' a (h.popF.take 1 n).2 ∧ Kept (fun b => S b ∨ b = g) w3 w') := fun w1 w2 g cap w3 hb hp h3 =>
    take_pop ((HFin.out w1 w2 g cap hb hp).below h3 (Nat.le_refl _)) hfree n hn hn2 ha
  unfold setT at HVa HTk HKp
  clear HFin
  generalize h.popF.take 1 n = tk at *
  generalize h.popF.free 1 = fr at *
  clear r t hLc hE
  generalize hLdef : (h.t 1).length = L at *
  generalize hfdef : h.frames = f at *
  go_enter Tryz.func75, Tryz.ntmps75
  go_wp2_with fail
  have HB0 : Hid (Below w.heap.size w (w.alloc (.cells #[.slice (some ⟨Y.to 1, 0, none⟩) L c, .slice (some ⟨Y.tg 1, 0, none⟩) L L, .int .i64 f] 134)).drew) := (Below.alloc0 w _).trans ⟨rfl, rfl, rfl, Nat.le_refl _, fun _ _ => rfl⟩
  have hnbt : Y.bt ≠ w.heap.size := by omega
  go_region_held3 (fun w' => w'.cell? ⟨w.heap.size, 0, none⟩ = some (.slice (some ⟨Y.to 1, 0, none⟩) L c) ∧ w'.cell? ⟨w.heap.size, 1, none⟩ = some (.slice (some ⟨Y.tg 1, 0, none⟩) L L) ∧ w'.cell? ⟨w.heap.size, 2, none⟩ = some (.int .i64 f)) (first | (with_reducible exact ⟨by assumption, by assumption, by assumption⟩) | (refine ⟨?_, ?_, ?_⟩ <;> (repeat rw [World.cell?_setCell_other _ _ _ _ (fun e => hnbt (congrArg Addr.block e))]) <;> (with_reducible assumption)) | go_keep) (first
    | (go_at_call 102
       refine (HP.out _ HB0.out).mono ?_
       rintro e w2 ⟨g, cap, rfl, hp⟩
       have hzp : w.heap.size + 1 ≤ w2.heap.size := by have := hp.below.size; simpa using this
       have e2 : ∀ x, x < w.heap.size → w2.heap[x]? = w.heap[x]? := fun x hx => (hp.below.block x (by simp; omega)).trans (HB0.out.block x hx)
       have d3 : w2.cell? ⟨Y.bt, 3, none⟩ = some (.slice (some ⟨Y.to 1, 0, none⟩) L c) := (cell_of (e2 _ hbt)).trans c3
       have d4 : w2.cell? ⟨Y.bt, 4, none⟩ = some (.slice (some ⟨Y.tg 1, 0, none⟩) L L) := (cell_of (e2 _ hbt)).trans c4
       have d5 : w2.cell? ⟨Y.bt, 5, none⟩ = some (.int .i64 f) := (cell_of (e2 _ hbt)).trans c5
       have x3 : w2.frozen? ⟨Y.bt, 3, none⟩ = false := (frozen_of (e2 _ hbt)).trans (HSoft.out 3)
       have x4 : w2.frozen? ⟨Y.bt, 4, none⟩ = false := (frozen_of (e2 _ hbt)).trans (HSoft.out 4)
       have x5 : w2.frozen? ⟨Y.bt, 5, none⟩ = false := (frozen_of (e2 _ hbt)).trans (HSoft.out 5)
       have v0 : w2.cell? ⟨w.heap.size, 0, none⟩ = some (.slice (some ⟨Y.to 1, 0, none⟩) L c) := by rw [hp.below.cell (by simp)]; show (w.alloc _).cell? _ = _; rw [World.cell?_alloc_new]; rfl
       have v1 : w2.cell? ⟨w.heap.size, 1, none⟩ = some (.slice (some ⟨Y.tg 1, 0, none⟩) L L) := by rw [hp.below.cell (by simp)]; show (w.alloc _).cell? _ = _; rw [World.cell?_alloc_new]; rfl
       have v2 : w2.cell? ⟨w.heap.size, 2, none⟩ = some (.int .i64 f) := by rw [hp.below.cell (by simp)]; show (w.alloc _).cell? _ = _; rw [World.cell?_alloc_new]; rfl
       have HPt := hide hp
       have HE2 := hide e2
       clear hp e2)
    | fail)
  all_goals go_wp2_with (first
    | (go_at_call 87
       refine (HVa.out _ _ _ _ HB0.out HPt.out).mono ?_
       rintro e w3 ⟨rfl, hb3⟩
       obtain ⟨i, ei, ht⟩ := HTk.out _ _ _ _ _ HB0.out HPt.out hb3
       have HT3 := hide ht
       have HB3 := hide hb3
       subst ei
       clear ht hb3)
    | (go_at_call 88; refine HT3.out.mono ?_; rintro e w4 ⟨rfl, hp4, hk4⟩; have HP4 := hide hp4; have HK4 := hide hk4; clear hp4 hk4)
    | fail)
  all_goals go_ret2
  all_goals
    have hg := HPt.out.lo
    have hkp := HKp.out _ _ _ _ HB0.out HPt.out
    have hz := hkp.size
    have hz3 := HB3.out.size
    simp only [World.size_drew, World.size_alloc] at hg
    refine ⟨_, _, rfl, Or.inl ⟨rfl, rfl⟩, HP4.out, ?_, fun b hb => Or.inl hb, fun b hb => ?_⟩
    · refine ⟨HK4.out.os.trans (HB3.out.os.trans hkp.os), HK4.out.tape.trans (HB3.out.tape.trans hkp.tape), HK4.out.output.trans (HB3.out.output.trans hkp.output), Nat.le_trans hz (Nat.le_trans hz3 HK4.out.size), fun b hb hnb => ?_⟩
      rw [HK4.out.block b (by omega) (by rintro (q | q); exact hnb q; omega), HB3.out.block b (by omega), hkp.block b hb hnb]
    · rcases hb with hb | rfl
      · exact Or.inl hb
      · exact Or.inr (by omega)

set_option maxRecDepth 100000 in
set_option maxHeartbeats 4000000 in
theorem popT_full {S : Nat → Prop} {tag : Nat → Nat × Nat} {w : World} {a : Nat} {Y : PLay} {h : H} {N : Nat} {A : Nat → Addr} (hE : Errs N A w) (hS : ∀ b, S b → N ≤ b) (r : PRep S tag w a Y h) (hf1 : h.frames ≠ 1) (n : Int) (hn : 0 < n) (hfree : h.popF.free 1 < 0) :
    Calls Tryz.prog 75 #[.pointer (some ⟨Y.bt, 0, none⟩), .int .i64 n] w (TPopPost S w a A 0 ⟨7, 0⟩ h) := by
  have t := r.tab 1 (by omega) (by omega)
  obtain ⟨c, c3, hLc⟩ := t.ho
  have c3 : w.cell? ⟨Y.bt, 3, none⟩ = some (.slice (some ⟨Y.to 1, 0, none⟩) (h.t 1).length c) := c3
  have c4 : w.cell? ⟨Y.bt, 4, none⟩ = some (.slice (some ⟨Y.tg 1, 0, none⟩) (h.t 1).length (h.t 1).length) := t.hg
  have c5 : w.cell? ⟨Y.bt, 5, none⟩ = some (.int .i64 h.frames) := t.hf
  have hbt := r.lt _ r.st.1
  have hto := r.lt _ t.so
  have hfr := r.good.frames
  have HSoft := hide (fun i => r.soft _ i r.st.1)
  have HP : Hid (∀ w1, Below w.heap.size w w1 → Calls Tryz.prog 102 #[.agg #[.slice (some ⟨Y.to 1, 0, none⟩) (h.t 1).length c, .slice (some ⟨Y.tg 1, 0, none⟩) (h.t 1).length (h.t 1).length, .int .i64 h.frames]] w1 fun e w' => ∃ g cap, e = .returned (.agg #[.slice (some ⟨g, 0, none⟩) (h.t 1).length cap, .slice (some ⟨Y.tg 1, 0, none⟩) (h.t 1).length (h.t 1).length, .int .i64 (h.frames - 1)]) ∧ PopT w1 w' g cap (h.t 1).length (obOf h) (frsOf h) h.frames) := fun w1 hb =>
    popped_any w1 (Y.to 1) c (Y.tg 1) (obOf h) (frsOf h) (h.t 1).length h.frames (r.good.tabs 1) hfr (Nat.lt_of_lt_of_le hto hb.size) (fun q hq => by rw [hb.cell hto, hb.cell hto]; exact r.slotsAt q hq)
  have HR := hide r
  have HFin : Hid (∀ w1 w2 g cap, Below w.heap.size w w1 → PopT w1 w2 g cap (h.t 1).length (obOf h) (frsOf h) h.frames → PRep (fun b => S b ∨ b = g) (fun b => if b = g then (4, 1) else tag b) (setT w2 Y.bt (.slice (some ⟨g, 0, none⟩) (h.t 1).length cap) (.slice (some ⟨Y.tg 1, 0, none⟩) (h.t 1).length (h.t 1).length) (h.frames - 1)) a { Y with to := fun k => if k = 1 then g else Y.to k } h.popF) := fun w1 w2 g cap hb hp => pop_store r hf1 hb hp
  have HKp : Hid (∀ w1 w2 g cap, Below w.heap.size w w1 → PopT w1 w2 g cap (h.t 1).length (obOf h) (frsOf h) h.frames → Kept S w (setT w2 Y.bt (.slice (some ⟨g, 0, none⟩) (h.t 1).length cap) (.slice (some ⟨Y.tg 1, 0, none⟩) (h.t 1).length (h.t 1).length) (h.frames - 1))) := fun w1 w2 g cap hb hp => by
    unfold setT
    refine Kept.setCell (Kept.setCell (Kept.setCell ?_ (Or.inl r.st.1) _) (Or.inl r.st.1) _) (Or.inl r.st.1) _
    exact Kept.of_below (hb.trans (hp.below.mono hb.size))
  have HVa : ∀ w1 w2 g cap, Below w.heap.size w w1 → PopT w1 w2 g cap (h.t 1).length (obOf h) (frsOf h) h.frames → Calls Tryz.prog 87 #[.pointer (some ⟨Y.bt, 0, none⟩), .int .i64 1] (setT w2 Y.bt (.slice (some ⟨g, 0, none⟩) (h.t 1).length cap) (.slice (some ⟨Y.tg 1, 0, none⟩) (h.t 1).length (h.t 1).length) (h.frames - 1)) (VacPost A (setT w2 Y.bt (.slice (some ⟨g, 0, none⟩) (h.t 1).length cap) (.slice (some ⟨Y.tg 1, 0, none⟩) (h.t 1).length (h.t 1).length) (h.frames - 1)) (h.popF.free 1)) := fun w1 w2 g cap hb hp => by
    have rp := HFin.out w1 w2 g cap hb hp
    exact vacant_any (k := 1) (hE.off (HKp.out w1 w2 g cap hb hp) hS) (rp.tab 1 (by omega) (by omega)) rp.lt (rp.lt _ rp.st.1) (by omega) (rp.good.tabs 1)
  have hi := ifaceE
  have hn0 : (n == 0) = false := beq_eq_false_iff_ne.2 (by omega)
  unfold VacPost at HVa
  simp only [if_pos hfree] at HVa
  have HVa := hide HVa
  have HBk : Hid (∀ w3 x y, Kept S w w3 → (∀ b, S b → b ≠ Y.bt → w3.heap[b]? = w.heap[b]?) → w3.cell? ⟨Y.bt, 3, none⟩ = some x → w3.cell? ⟨Y.bt, 4, none⟩ = some y → (∃ z, w3.cell? ⟨Y.bt, 5, none⟩ = some z) → (∀ i, i ≠ 3 → i ≠ 4 → i ≠ 5 → w3.cell? ⟨Y.bt, i, none⟩ = w.cell? ⟨Y.bt, i, none⟩) → (∀ i, w3.frozen? ⟨Y.bt, i, none⟩ = false) → PRep S tag (setT w3 Y.bt (.slice (some ⟨Y.to 1, 0, none⟩) (h.t 1).length c) (.slice (some ⟨Y.tg 1, 0, none⟩) (h.t 1).length (h.t 1).length) h.frames) a Y h ∧ Kept S w (setT w3 Y.bt (.slice (some ⟨Y.to 1, 0, none⟩) (h.t 1).length c) (.slice (some ⟨Y.tg 1, 0, none⟩) (h.t 1).length (h.t 1).length) h.frames)) := fun w3 x y hk hb q3 q4 q5 qo qf => by
    obtain ⟨z, q5⟩ := q5
    obtain ⟨k3, k4, k5, ko⟩ := setT_cell (.slice (some ⟨Y.to 1, 0, none⟩) (h.t 1).length c) (.slice (some ⟨Y.tg 1, 0, none⟩) (h.t 1).length (h.t 1).length) h.frames q3 q4 q5
    refine ⟨pop_back r (fun b hb' hne => by rw [setT_heap _ _ _ _ _ _ hne]; exact hb b hb' hne) (fun i => ?_) (fun i => by rw [setT_frozen]; exact qf i) (by rw [setT_size]; exact hk.size), ?_⟩
    · by_cases e3 : i = 3
      · subst e3; rw [k3]; exact c3.symm
      · by_cases e4 : i = 4
        · subst e4; rw [k4]; exact c4.symm
        · by_cases e5 : i = 5
          · subst e5; rw [k5]; exact c5.symm
          · rw [ko i e3 e4 e5]; exact qo i e3 e4 e5
    · unfold setT
      exact ((hk.setCell (Or.inl r.st.1) _).setCell (Or.inl r.st.1) _).setCell (Or.inl r.st.1) _
  have HSl := hide r.lt
  unfold setT at HVa HBk HKp
  clear HFin
  generalize hfree0 : h.popF.free 1 = fr at *
  clear hfree0 r t hLc hE
  generalize hLdef : (h.t 1).length = L at *
  generalize hfdef : h.frames = f at *
  go_enter Tryz.func75, Tryz.ntmps75
  go_wp2_with fail
  have HB0 : Hid (Below w.heap.size w (w.alloc (.cells #[.slice (some ⟨Y.to 1, 0, none⟩) L c, .slice (some ⟨Y.tg 1, 0, none⟩) L L, .int .i64 f] 134)).drew) := (Below.alloc0 w _).trans ⟨rfl, rfl, rfl, Nat.le_refl _, fun _ _ => rfl⟩
  have hnbt : Y.bt ≠ w.heap.size := by omega
  go_region_held3 (fun w' => w'.cell? ⟨w.heap.size, 0, none⟩ = some (.slice (some ⟨Y.to 1, 0, none⟩) L c) ∧ w'.cell? ⟨w.heap.size, 1, none⟩ = some (.slice (some ⟨Y.tg 1, 0, none⟩) L L) ∧ w'.cell? ⟨w.heap.size, 2, none⟩ = some (.int .i64 f)) (first | (with_reducible exact ⟨by assumption, by assumption, by assumption⟩) | (refine ⟨?_, ?_, ?_⟩ <;> (repeat rw [World.cell?_setCell_other _ _ _ _ (fun e => hnbt (congrArg Addr.block e))]) <;> (with_reducible assumption)) | go_keep) (first
    | (go_at_call 102
       refine (HP.out _ HB0.out).mono ?_
       rintro e w2 ⟨g, cap, rfl, hp⟩
       have hzp : w.heap.size + 1 ≤ w2.heap.size := by have := hp.below.size; simpa using this
       have e2 : ∀ x, x < w.heap.size → w2.heap[x]? = w.heap[x]? := fun x hx => (hp.below.block x (by simp; omega)).trans (HB0.out.block x hx)
       have d3 : w2.cell? ⟨Y.bt, 3, none⟩ = some (.slice (some ⟨Y.to 1, 0, none⟩) L c) := (cell_of (e2 _ hbt)).trans c3
       have d4 : w2.cell? ⟨Y.bt, 4, none⟩ = some (.slice (some ⟨Y.tg 1, 0, none⟩) L L) := (cell_of (e2 _ hbt)).trans c4
       have d5 : w2.cell? ⟨Y.bt, 5, none⟩ = some (.int .i64 f) := (cell_of (e2 _ hbt)).trans c5
       have x3 : w2.frozen? ⟨Y.bt, 3, none⟩ = false := (frozen_of (e2 _ hbt)).trans (HSoft.out 3)
       have x4 : w2.frozen? ⟨Y.bt, 4, none⟩ = false := (frozen_of (e2 _ hbt)).trans (HSoft.out 4)
       have x5 : w2.frozen? ⟨Y.bt, 5, none⟩ = false := (frozen_of (e2 _ hbt)).trans (HSoft.out 5)
       have v0 : w2.cell? ⟨w.heap.size, 0, none⟩ = some (.slice (some ⟨Y.to 1, 0, none⟩) L c) := by rw [hp.below.cell (by simp)]; show (w.alloc _).cell? _ = _; rw [World.cell?_alloc_new]; rfl
       have v1 : w2.cell? ⟨w.heap.size, 1, none⟩ = some (.slice (some ⟨Y.tg 1, 0, none⟩) L L) := by rw [hp.below.cell (by simp)]; show (w.alloc _).cell? _ = _; rw [World.cell?_alloc_new]; rfl
       have v2 : w2.cell? ⟨w.heap.size, 2, none⟩ = some (.int .i64 f) := by rw [hp.below.cell (by simp)]; show (w.alloc _).cell? _ = _; rw [World.cell?_alloc_new]; rfl
       have HPt := hide hp
       have HE2 := hide e2
       clear hp e2)
    | fail)
  have hsc := setT_cell (.slice (some ⟨g, 0, none⟩) L cap) (.slice (some ⟨Y.tg 1, 0, none⟩) L L) (f - 1) d3 d4 d5
  have hsh := setT_heap w2 Y.bt (.slice (some ⟨g, 0, none⟩) L cap) (.slice (some ⟨Y.tg 1, 0, none⟩) L L) (f - 1)
  have hsf := setT_frozen w2 Y.bt (.slice (some ⟨g, 0, none⟩) L cap) (.slice (some ⟨Y.tg 1, 0, none⟩) L L) (f - 1)
  have hsz := setT_size w2 Y.bt (.slice (some ⟨g, 0, none⟩) L cap) (.slice (some ⟨Y.tg 1, 0, none⟩) L L) (f - 1)
  unfold setT at hsc hsh hsf hsz
  have HVb := hide (HVa.out _ _ _ _ HB0.out HPt.out)
  have HKb := hide (HKp.out _ _ _ _ HB0.out HPt.out)
  obtain ⟨W, eW⟩ : ∃ W, ((w2.setCell ⟨Y.bt, 3, none⟩ (.slice (some ⟨g, 0, none⟩) L cap)).setCell ⟨Y.bt, 4, none⟩ (.slice (some ⟨Y.tg 1, 0, none⟩) L L)).setCell ⟨Y.bt, 5, none⟩ (.int .i64 (f - 1)) = W := ⟨_, rfl⟩
  rw [eW] at hsc hsh hsf hsz HVb HKb ⊢
  have HSc := hide hsc
  have HSh := hide hsh
  have HSf := hide hsf
  clear eW hsc hsh hsf HVa HKp
  go_wp2_with (first
    | (go_at_call 87
       refine HVb.out.mono ?_
       rintro e w3 ⟨rfl, hb3⟩
       have hbtW : Y.bt < W.heap.size := by omega
       have hnW : w.heap.size < W.heap.size := by omega
       have y3 : w3.cell? ⟨Y.bt, 3, none⟩ = some (.slice (some ⟨g, 0, none⟩) L cap) := by rw [hb3.cell hbtW]; exact HSc.out.1
       have y4 : w3.cell? ⟨Y.bt, 4, none⟩ = some (.slice (some ⟨Y.tg 1, 0, none⟩) L L) := by rw [hb3.cell hbtW]; exact HSc.out.2.1
       have y5 : w3.cell? ⟨Y.bt, 5, none⟩ = some (.int .i64 (f - 1)) := by rw [hb3.cell hbtW]; exact HSc.out.2.2.1
       have z3 : w3.frozen? ⟨Y.bt, 3, none⟩ = false := by rw [hb3.frozen hbtW, HSf.out]; exact x3
       have z4 : w3.frozen? ⟨Y.bt, 4, none⟩ = false := by rw [hb3.frozen hbtW, HSf.out]; exact x4
       have z5 : w3.frozen? ⟨Y.bt, 5, none⟩ = false := by rw [hb3.frozen hbtW, HSf.out]; exact x5
       have t0 : w3.cell? ⟨w.heap.size, 0, none⟩ = some (.slice (some ⟨Y.to 1, 0, none⟩) L c) := by rw [hb3.cell hnW, cell_of (HSh.out _ (fun e => hnbt e.symm))]; exact v0
       have t1 : w3.cell? ⟨w.heap.size, 1, none⟩ = some (.slice (some ⟨Y.tg 1, 0, none⟩) L L) := by rw [hb3.cell hnW, cell_of (HSh.out _ (fun e => hnbt e.symm))]; exact v1
       have t2 : w3.cell? ⟨w.heap.size, 2, none⟩ = some (.int .i64 f) := by rw [hb3.cell hnW, cell_of (HSh.out _ (fun e => hnbt e.symm))]; exact v2
       have HB3 := hide hb3
       have hz3 := hb3.size
       clear hb3)
    | fail)
  go_region_held3 (fun w' => w'.cell? ⟨w.heap.size, 0, none⟩ = some (.slice (some ⟨Y.to 1, 0, none⟩) L c) ∧ w'.cell? ⟨w.heap.size, 1, none⟩ = some (.slice (some ⟨Y.tg 1, 0, none⟩) L L) ∧ w'.cell? ⟨w.heap.size, 2, none⟩ = some (.int .i64 f)) (first | (with_reducible exact ⟨by assumption, by assumption, by assumption⟩) | (refine ⟨?_, ?_, ?_⟩ <;> (repeat rw [World.cell?_setCell_other _ _ _ _ (fun e => hnbt (congrArg Addr.block e))]) <;> (with_reducible assumption)) | go_keep) (fail)
  all_goals go_wp2_with fail
  all_goals go_ret2
  all_goals
    have hkW := HKb.out
    have hk3 : Kept S w w3 := hkW.trans ⟨HB3.out.os, HB3.out.tape, HB3.out.output, HB3.out.size, fun b hb _ => HB3.out.block b hb⟩
    have hbk := HBk.out w3 _ _ hk3 (fun b hb hne => by
      have hl := HSl.out b hb
      rw [HB3.out.block b (by have := hkW.size; omega), HSh.out b hne, HE2.out b hl]) y3 y4 ⟨_, y5⟩ (fun i h3 h4 h5 => by rw [HB3.out.cell (by omega), HSc.out.2.2.2 i h3 h4 h5]; exact cell_of (HE2.out _ hbt)) (fun i => by rw [HB3.out.frozen (by omega), HSf.out, frozen_of (HE2.out _ hbt)]; exact HSoft.out i)
    refine ⟨_, S, rfl, InErr.bare _ 7 (by omega) (by omega), ⟨tag, Y, ?_⟩, ?_, fun b hb => hb, fun b hb => Or.inl hb⟩
    · first | exact hbk.1 | exact hbk.1.drewN 1
    · first | exact hbk.2 | exact hbk.2.drewN 1
end Go.Proofs.YtcnmfljpmpgnjaaGreatDoor
