import Derived.Test.YtcnmfljpmpgnjaaGreatDoorK08
import Derived.Test.YtcnmfljpmpgnjaaGreatDoorK00
import Derived.Maps.OwnRows
import Derived.Lib.AppendZeros
namespace Go.Proofs.YtcnmfljpmpgnjaaGreatDoor
open Go.RowKit Go.Maps
open Tm (H Ob Sl Why)

theorem nroom_any {w : World} {x fb : Nat} {ks : List Int} {nm : Int} (n : ONewAt w x fb ks nm) (hl : ks.length ≤ 32) :
    Calls Tryz.prog 93 #[.pointer (some ⟨x, 0, none⟩)] w fun e w' => e = .returned (.int .i64 ((ks.length : Int) + 1)) ∧ w' = w := by
  obtain ⟨p, c, h1, h2⟩ := n.head
  clear h2 n
  go_enter Tryz.func93, Tryz.ntmps93
  go_wp2_with fail
  go_ret
  exact ⟨rfl, rfl⟩

set_option maxRecDepth 100000 in
set_option maxHeartbeats 2000000 in
theorem add_any {S : Nat → Prop} {tag : Nat → Nat × Nat} {w : World} {a : Nat} {Y : PLay} {h : H} {N : Nat} {A : Nat → Addr} (hE : Errs N A w) (r : PRep S tag w a Y h) (ks : List Int) (nm : Int) (x fb : Nat) (hn : ONewAt w x fb ks nm) (hx : ¬ S x) (hfb : ¬ S fb) (hxf : 0 < ks.length → x ≠ fb) (hxl : x < w.heap.size) (hfl : fb < w.heap.size) (hsf : ∀ b i, b = x ∨ b = fb → w.frozen? ⟨b, i, none⟩ = false) (hl : ks.length ≤ 32) (hk : ∀ q, q < ks.length → ks.getD q 0 = 1 ∨ ks.getD q 0 = 2) (hnm : nm = -1 ∨ (0 ≤ nm ∧ nm ≤ 1000000000)) (hm : h.l.length + 1 < 4398046511104) :
    Calls Tryz.prog 95 #[.pointer (some ⟨Y.bs, 0, none⟩), .pointer (some ⟨x, 0, none⟩)] w (AddPost S tag w a Y h A ks nm x fb) := by
  have hRB : 0 ≤ Tm.roomOf h.l ∧ Tm.roomOf h.l ≤ 33 * (h.l.length : Int) := by rw [roomOf_rm]; exact rm_bd _ _ _ (fun j hj => (r.good.eq j hj).2)
  have hsm := r.good.small
  have HR := hide r
  have HE := hide hE
  have HNw := hide hn
  have HSf := hide hsf
  have hleE := hE.le
  have hbs := r.lt _ r.ss.1
  have hbm := r.lt _ r.sm.1
  have hxs : x ≠ Y.bs := fun e => hx (e ▸ r.ss.1)
  have hfs : fb ≠ Y.bs := fun e => hfb (e ▸ r.ss.1)
  have hxm : x ≠ Y.bm := fun e => hx (e ▸ r.sm.1)
  have hfm : fb ≠ Y.bm := fun e => hfb (e ▸ r.sm.1)
  have HO := hide (nroom_any hn hl)
  have HG := granted_any r ((ks.length : Int) + 1) (by omega)
  obtain ⟨M, eM⟩ : ∃ M, min ((ks.length : Int) + 1) (max (h.room - Tm.roomOf h.l) 0) = M := ⟨_, rfl⟩
  have hMx : M < (ks.length : Int) + 1 ↔ h.room < Tm.roomOf h.l + (1 + (ks.length : Int)) := by subst eM; omega
  rw [eM] at HG
  have HG := hide HG
  have HMx := hide hMx
  clear r hE hn hsf eM hMx
  have HPost : Hid (∀ e w', (if M < (ks.length : Int) + 1 then e = Ending.returned (.tuple #[.int .i64 0, errV A 8]) ∧ Below w.heap.size w w'
  else e = .returned (.tuple #[.int .i64 ((h.l.length : Int) + 1), .nilIface]) ∧ PRep (pgrowS S x fb) (pgrowT tag h.l.length x fb) w' a (pgrowY Y h.l.length x fb) (h.grown ks nm) ∧ Kept (fun b => b = Y.bs ∨ b = Y.bm) w w') → AddPost S tag w a Y h A ks nm x fb e w') := fun e w' hp => by
    show AddPost S tag w a Y h A ks nm x fb e w'
    unfold AddPost
    by_cases c : M < (ks.length : Int) + 1
    · rw [if_pos c] at hp; rw [if_pos (HMx.out.1 c)]; exact hp
    · rw [if_neg c] at hp; rw [if_neg (fun h => c (HMx.out.2 h))]; exact hp
  by_cases c : M < (ks.length : Int) + 1
  · go_enter Tryz.func95, Tryz.ntmps95
    go_wp2_with (first
      | (go_at_call 93; have _ := M1; refine HO2.out.mono ?_; rintro e w9 ⟨rfl, hw⟩; replace hw := hw.symm; subst hw)
      | (go_at_call 93; refine HO.out.mono ?_; rintro e w9 ⟨rfl, hw⟩; replace hw := hw.symm; subst hw)
      | (go_at_call 124; refine HG.out.mono ?_; rintro e w2 ⟨rfl, hb2⟩; have g7 := (HE.out.below hb2 hleE).g7; have HO2 := hide (nroom_any (HNw.out.same (hb2.block _ hxl) (hb2.block _ hfl)) hl); have HB2 := hide hb2; have M1 : Hid True := trivial; clear hb2)
      | fail)
    go_quiet (fail)
    go_wp2_with fail
    go_ret2
    refine HPost.out _ _ ?_
    rw [if_pos c]
    exact ⟨rfl, HB2.out.trans (below_drewN _ _ |>.mono HB2.out.size)⟩
  · go_enter Tryz.func95, Tryz.ntmps95
    go_wp2_with (first
      | (go_at_call 93; have _ := M1; refine HO2.out.mono ?_; rintro e w9 ⟨rfl, hw⟩; replace hw := hw.symm; subst hw)
      | (go_at_call 93; refine HO.out.mono ?_; rintro e w9 ⟨rfl, hw⟩; replace hw := hw.symm; subst hw)
      | (go_at_call 124
         refine HG.out.mono ?_
         rintro e w2 ⟨rfl, hb2⟩
         have HO2 := hide (nroom_any (HNw.out.same (hb2.block _ hxl) (hb2.block _ hfl)) hl)
         have HB2 := hide hb2
         have M1 : Hid True := trivial
         have r2 := HR.out.below hb2 (Nat.le_refl _)
         have m0 := r2.made
         have m2 := r2.map
         have f1 := r2.soft _ 1 r2.ss.1
         obtain ⟨D, d1, d2⟩ := r2.objs
         have HD1 := hide d1
         have HD2 := hide d2
         have HR2 := hide r2
         clear hb2 r2 d1 d2)
      | fail)
    have hne : Y.bm ≠ Y.bs := fun e => by have h1 := HR2.out.sm.2; rw [e, HR2.out.ss.2] at h1; simp at h1
    have HOwn := hide (ownsMap_block (w' := (w2.setCell ⟨Y.bs, 1, none⟩ (.int .i64 ((h.l.length : Int) + 1))).drew) HD1.out (Below.heap_setCell _ _ _ _ hne))
    have hkey : keyOf Tryz.prog 3 (.int .i64 ((h.l.length : Int) + 1)) = some (key h.l.length) := keyOf_int_mk Tryz.underlying3 (wf_i64 (by omega) (by omega))
    have m1' : (w2.setCell ⟨Y.bs, 1, none⟩ (.int .i64 ((h.l.length : Int) + 1))).cell? ⟨Y.bs, 1, none⟩ = some (.int .i64 ((h.l.length : Int) + 1)) := World.cell?_setCell_same _ _ _ m0
    have m2' : (w2.setCell ⟨Y.bs, 1, none⟩ (.int .i64 ((h.l.length : Int) + 1))).cell? ⟨Y.bs, 2, none⟩ = some (.map (some Y.bm)) := by rw [World.cell?_setCell_other _ _ _ _ (fun e => by have := congrArg Addr.off e; simp at this)]; exact m2
    obtain ⟨w4, hrun, hown4, hturn4⟩ := HOwn.out.store lawI Tryz.underlying127 (by unfold maxLen; omega) hkey (ptrElem_mk x)
    have hg4 := hturn4.grown
    have hblt : Y.bs < w2.heap.size := HR2.out.lt _ HR2.out.ss.1
    have eb4 : w4.heap[Y.bs]? = _ := hg4.block Y.bs (by simpa using hblt) (by simp; exact fun e => hne e.symm)
    have m4 : w4.cell? ⟨Y.bs, 1, none⟩ = some (.int .i64 ((h.l.length : Int) + 1)) := (cell_of eb4).trans m1'
    have m5 : w4.cell? ⟨Y.bs, 2, none⟩ = some (.map (some Y.bm)) := (cell_of eb4).trans m2'
    have HEnd : Hid (PRep (pgrowS S x fb) (pgrowT tag h.l.length x fb) w4 a (pgrowY Y h.l.length x fb) (h.grown ks nm) ∧ Kept (fun b => b = Y.bs ∨ b = Y.bm) w w4) := by
      show _ ∧ _
      have hz4 : w2.heap.size ≤ w4.heap.size := by have := hg4.size; simpa using this
      have hz2 := HB2.out.size
      have e4 : ∀ b, b < w2.heap.size → b ≠ Y.bm → b ≠ Y.bs → w4.heap[b]? = w2.heap[b]? := fun b hb h1 h2 => by
        rw [hg4.block b (by simpa using hb) (by simp; exact h1)]
        exact Below.heap_setCell _ _ _ _ h2
      have e5 : ∀ i, i ≠ 1 → w4.cell? ⟨Y.bs, i, none⟩ = w2.cell? ⟨Y.bs, i, none⟩ := fun i hi => (cell_of eb4).trans (World.cell?_setCell_other _ _ _ _ (fun e => by have := congrArg Addr.off e; simp at this; omega))
      have ez : ∀ b i, w4.frozen? ⟨b, i, none⟩ = w2.frozen? ⟨b, i, none⟩ := fun b i => by
        rw [hturn4.frozen]; exact World.frozen?_setCell _ _ _ _
      have ex := e4 x (by omega) hxm hxs
      have ef := e4 fb (by omega) hfm hfs
      refine ⟨HR2.out.grow ks nm x fb (HR.out.good.grown ks nm hl hk hm (by have := HMx.out; omega) hnm) hx hfb hxf (by omega) (by omega) hz4 (fun b hb h1 h2 => e4 b (HR2.out.lt b hb) (fun e => h1 (by rw [e, HR2.out.sm.2])) (fun e => h2 (by rw [e, HR2.out.ss.2]))) (fun b i hb => ?_) (e5 0 (by omega)) m4 (e5 2 (by omega)) (e5 3 (by omega)) D hown4 HD2.out (HNw.out.same (ex.trans (HB2.out.block _ hxl)) (ef.trans (HB2.out.block _ hfl))), ?_⟩
      · rcases hb with hb | hb | hb
        · rw [ez b i]; exact HR2.out.soft b i hb
        · rw [ez b i, frozen_of (HB2.out.block b (by omega))]; exact HSf.out b i (Or.inl hb)
        · rw [ez b i, frozen_of (HB2.out.block b (by omega))]; exact HSf.out b i (Or.inr hb)
      · have k1 : Kept (fun b => b = Y.bs ∨ b = Y.bm) w w2 := Kept.of_below HB2.out
        exact ((k1.setCell (Or.inl (Or.inl rfl)) _).drew).of_turned (Or.inl (Or.inr rfl)) hg4
    clear hown4 hturn4 hg4 eb4
    go_region_held3 (fun w' => w'.cell? ⟨Y.bs, 1, none⟩ = some (.int .i64 ((h.l.length : Int) + 1)) ∧ w'.cell? ⟨Y.bs, 2, none⟩ = some (.map (some Y.bm))) (first | go_keep | trivial) (fail)
    all_goals go_wp2_with fail
    all_goals go_ret2
    all_goals
      refine HPost.out _ _ ?_
      rw [if_neg (by omega)]
      exact ⟨rfl, HEnd.out.1, HEnd.out.2⟩
end Go.Proofs.YtcnmfljpmpgnjaaGreatDoor

namespace Go.Proofs.YtcnmfljpmpgnjaaGreatDoor
open Go.RowKit

/-- A list of numbers that the call itself has laid, in a block from base on. -/
def IRow (base : Nat) (w : World) (p : Option Addr) (cap : Nat) (zs : List Int) : Prop := w.ownsRow base 3 1 (.slice p zs.length cap) zs.length (zs.map (Value.int .i64))

theorem IRow.at {base : Nat} {w : World} {p : Option Addr} {cap : Nat} {zs : List Int} (h : IRow base w p cap zs) (h0 : 0 < zs.length ∨ p ≠ none) : ∃ g, p = some ⟨g, 0, none⟩ ∧ base ≤ g ∧ g < w.heap.size ∧ zs.length ≤ cap ∧ (∀ i, i < zs.length → w.cell? ⟨g, i, none⟩ = some (.int .i64 (zs.getD i 0))) ∧ ∀ i, w.frozen? ⟨g, i, none⟩ = false := by
  have hlt := World.ownsRow.lt h
  obtain ⟨hl, ⟨e, e2⟩ | ⟨g, cap', cur, e, hb, hg, hc, hcm, hsz, htk⟩⟩ := h
  · simp only [Value.slice.injEq] at e
    rcases h0 with h0 | h0
    · omega
    · exact absurd e.1 h0
  · simp only [Value.slice.injEq, true_and] at e
    obtain ⟨rfl, rfl⟩ := e
    refine ⟨g, rfl, hb, (hlt g rfl).2, hc, fun i hi => ?_, fun i => by simp [World.frozen?, hg]⟩
    simp only [World.cell?, hg]
    have h9 : (cur.toList.take (zs.length * 1))[i]? = (zs.map (Value.int .i64))[i]? := by rw [htk]
    rw [List.getElem?_take, if_pos (by omega)] at h9
    simp only [Array.getElem?_toList, List.getElem?_map] at h9
    simp [h9, List.getD_eq_getElem?_getD, List.getElem?_eq_getElem hi]

theorem IRow.cap {base : Nat} {w : World} {p : Option Addr} {cap : Nat} {zs : List Int} (h : IRow base w p cap zs) : zs.length ≤ cap := by
  obtain ⟨hl, ⟨e, e2⟩ | ⟨g, cap', cur, e, hb, hg, hc, hcm, hsz, htk⟩⟩ := h
  · omega
  · simp only [Value.slice.injEq, true_and] at e
    obtain ⟨rfl, rfl⟩ := e
    exact hc

theorem IRow.nil (base : Nat) (w : World) : IRow base w none 0 [] := World.ownsRow_nil _ _ _ _
theorem IRow.empty {base : Nat} {w' : World} (g : Nat) (hb : base ≤ g) (hg : w'.heap[g]? = some (.cells #[] 3 (0, 0))) : IRow base w' (some ⟨g, 0, none⟩) 0 [] :=
  ⟨rfl, .inr ⟨g, 0, #[], rfl, hb, hg, Nat.le_refl _, by unfold maxLen; omega, rfl, rfl⟩⟩

theorem IRow.own {p : Option Addr} {n cap g : Nat} (h : (Value.slice p n cap).ownBlock = some g) : ∃ a, p = some a ∧ a.block = g := by
  cases p with
  | none => simp [Value.ownBlock] at h
  | some a => exact ⟨a, rfl, by simpa [Value.ownBlock] using h⟩

theorem IRow.block {base : Nat} {w w' : World} {p : Option Addr} {cap : Nat} {zs : List Int} (h : IRow base w p cap zs) (he : ∀ a, p = some a → w'.heap[a.block]? = w.heap[a.block]?) : IRow base w' p cap zs := by
  obtain ⟨hl, h | ⟨g, cap', cur, e, hb, hg, r⟩⟩ := h
  · exact ⟨hl, .inl h⟩
  · refine ⟨hl, .inr ⟨g, cap', cur, e, hb, ?_, r⟩⟩
    simp only [Value.slice.injEq, true_and] at e
    rw [he _ e.1]; exact hg

theorem IRow.lt {base : Nat} {w : World} {p : Option Addr} {cap : Nat} {zs : List Int} (h : IRow base w p cap zs) {a : Addr} (ha : p = some a) : base ≤ a.block ∧ a.block < w.heap.size := by
  subst ha
  exact World.ownsRow.lt h a.block rfl

/-- The list without its last. -/
theorem IRow.take {base : Nat} {w : World} {p : Option Addr} {cap : Nat} {zs : List Int} (h : IRow base w p cap zs) (m : Nat) (hm : m ≤ zs.length) (h0 : 0 < zs.length) : IRow base w p cap (zs.take m) := by
  obtain ⟨hl, ⟨_, h⟩ | ⟨g, cap', cur, e, hb, hg, hc, hcm, hsz, htk⟩⟩ := h
  · omega
  · simp only [Value.slice.injEq, true_and] at e
    have hlen : (zs.take m).length = m := by simp; omega
    refine ⟨by simp, .inr ⟨g, cap', cur, ?_, hb, hg, by omega, hcm, hsz, ?_⟩⟩
    · rw [e.1, e.2]
    · rw [hlen, List.map_take, ← htk, List.take_take]
      congr 1; omega

theorem wpList_append_ints (w : World) {ops : Array Oper} {rest : List Oper} {o : Oper} {a : Act} {Q : Exit → Act → World → Prop} (hgd : o.guard = none) (s x : Operand)
    (ho : o.op = .call { callee := .builtin .append, args := #[s, x], argTypes := #[24, 24] })
    (base : Nat) (p : Option Addr) (cap : Nat) (zs : List Int) (n : Nat) (hn : n = zs.length) (hs : a.eval s = .slice p n cap) (hown : IRow base w p cap zs)
    (ad : Addr) (m c : Nat) (ys : List Int) (hm : ys.length = m) (hx : a.eval x = .slice (some ad) m c) (hc : ∀ i, i < m → w.cell? (ad.add i) = some (.int .i64 (ys.getD i 0))) (hb : zs.length + m ≤ 8796093022208) (hbase : base ≤ w.heap.size)
    (h : ∀ p' cap' w', IRow base w' p' cap' (zs ++ ys) → w.grownBy w' (Value.slice p n cap).ownBlock → (p' = none → p = none) → (∀ a', p' = some a' → (∃ b, p = some b ∧ b.block = a'.block) ∨ a'.block = w.heap.size) → wpList Tryz.prog ops Q rest (a.put o.dst (.slice p' (n + m) cap')) w') :
    wpList Tryz.prog ops Q (o :: rest) a w := by
  subst hn
  obtain ⟨i3, hi3, hz0, hz1, hz2⟩ := info_parts info3
  refine wpList_append_own_at w hgd s x 24 ho base 3 i3 _ 1 8 Tryz.underlying24 hi3 hz0 hz1 hz2 rfl (by decide) _ _ _ hs hown ad m c (ys.map (Value.int .i64)) hx (by simp [hm]) (fun j u hj => ?_) (fun u hu => ?_) (by unfold maxLen; omega) (by omega) hbase ?_
  · simp only [List.getElem?_map, Option.map_eq_some_iff] at hj
    obtain ⟨y, hy, rfl⟩ := hj
    have hjl : j < ys.length := by
      rcases Nat.lt_or_ge j ys.length with h | h
      · exact h
      · rw [List.getElem?_eq_none h] at hy; cases hy
    rw [hc j (by omega)]
    simp [List.getD_eq_getElem?_getD, hy]
  · obtain ⟨y, _, rfl⟩ := List.mem_map.1 hu; rfl
  · intro v' w' hown' hg hnil hloc
    have hsh : ∃ p' cap', v' = .slice p' (zs.length + m) cap' := by
      rcases hown'.2 with ⟨rfl, e⟩ | ⟨g, cap', cur, rfl, _⟩
      · exact ⟨none, 0, by rw [e]⟩
      · exact ⟨_, _, rfl⟩
    obtain ⟨p', cap', rfl⟩ := hsh
    refine h p' cap' w' ?_ hg (fun e => ?_) (fun a' ha' => ?_)
    · unfold IRow
      rw [List.length_append, hm, List.map_append]; exact hown'
    · subst e
      rcases hown'.2 with ⟨e, _⟩ | ⟨g, cap', cur, e, _⟩
      · have := (hnil.1 e).1
        simp only [Value.slice.injEq] at this
        exact this.1
      · simp at e
    · subst ha'
      rcases hloc with e | e
      · obtain ⟨b, q1, q2⟩ := IRow.own (p := p) (g := a'.block) (by rw [← e]; rfl)
        exact Or.inl ⟨b, q1, q2⟩
      · exact Or.inr (by simpa [Value.ownBlock] using e)
end Go.Proofs.YtcnmfljpmpgnjaaGreatDoor

namespace Go.Proofs.YtcnmfljpmpgnjaaGreatDoor
open Go.RowKit Go.Maps
open Tm (H Ob Sl Why)

/-- What the first n references of an object are to. -/
def refsTo (o : Ob) : Nat → List Int
  | 0 => []
  | n + 1 => refsTo o n ++ (if o.kinds.getD n 0 = 2 ∧ o.vals.getD n 0 ≠ 0 then [o.vals.getD n 0] else [])
theorem refsTo_len (o : Ob) (n : Nat) : (refsTo o n).length ≤ n := by
  induction n with
  | zero => simp [refsTo]
  | succ n ih => simp only [refsTo, List.length_append]; split <;> simp <;> omega
theorem mem_refsTo (o : Ob) (n : Nat) (x : Int) : x ∈ refsTo o n ↔ ∃ q, q < n ∧ o.kinds.getD q 0 = 2 ∧ o.vals.getD q 0 = x ∧ x ≠ 0 := by
  induction n with
  | zero => simp [refsTo]
  | succ n ih =>
    simp only [refsTo, List.mem_append, ih]
    constructor
    · rintro (⟨q, h1, h2, h3, h4⟩ | h)
      · exact ⟨q, by omega, h2, h3, h4⟩
      · split at h
        · rename_i e
          simp only [List.mem_singleton] at h
          exact ⟨n, by omega, e.1, h.symm, by rw [h]; exact e.2⟩
        · simp at h
    · rintro ⟨q, h1, h2, h3, h4⟩
      by_cases e : q = n
      · subst e; right; rw [if_pos ⟨h2, by rw [h3]; exact h4⟩, h3]; simp
      · left; exact ⟨q, by omega, h2, h3, h4⟩

/-- What is held by the first n slots of a table. -/
def heldTo (l : List Sl) : Nat → List Int
  | 0 => []
  | n + 1 => heldTo l n ++ (if (l.getD n Tm.sl0).ob ≠ 0 then [(l.getD n Tm.sl0).ob] else [])
theorem heldTo_len (l : List Sl) (n : Nat) : (heldTo l n).length ≤ n := by
  induction n with
  | zero => simp [heldTo]
  | succ n ih => simp only [heldTo, List.length_append]; split <;> simp <;> omega
theorem mem_heldTo (l : List Sl) (n : Nat) (x : Int) : x ∈ heldTo l n ↔ ∃ i, i < n ∧ (l.getD i Tm.sl0).ob = x ∧ x ≠ 0 := by
  induction n with
  | zero => simp [heldTo]
  | succ n ih =>
    simp only [heldTo, List.mem_append, ih]
    constructor
    · rintro (⟨q, h1, h2, h3⟩ | h)
      · exact ⟨q, by omega, h2, h3⟩
      · split at h
        · rename_i e
          simp only [List.mem_singleton] at h
          exact ⟨n, by omega, h.symm, by rw [h]; exact e⟩
        · simp at h
    · rintro ⟨q, h1, h2, h3⟩
      by_cases e : q = n
      · subst e; right; rw [if_pos (by rw [h2]; exact h3), h2]; simp
      · left; exact ⟨q, by omega, h2, h3⟩
theorem taken_held (l : List Sl) (n : Nat) (hn : n ≤ l.length) : ((heldTo l n).length : Int) = Tm.takenOf (l.take n) := by
  induction n with
  | zero => simp [heldTo, Tm.takenOf]
  | succ n ih =>
    rw [Tm.take_getD l Tm.sl0 n (by omega), Tm.takenOf_append, ← ih (by omega)]
    simp only [heldTo, List.length_append, Tm.takenOf]
    by_cases e : (l.getD n Tm.sl0).ob = 0
    · rw [if_neg (by simpa using e), if_pos e]; simp
    · rw [if_pos (by simpa using e), if_neg e]; simp

/-- A list of numbers comes back, in new memory, not nil. -/
def ListBack (w : World) (zs : List Int) (e : Ending) (w' : World) : Prop := ∃ g cap, e = .returned (.slice (some ⟨g, 0, none⟩) zs.length cap) ∧ IRow w.heap.size w' (some ⟨g, 0, none⟩) cap zs ∧ Below w.heap.size w w'

theorem below_own {w w1 w2 : World} (hb : Below w.heap.size w w1) {p : Option Addr} {n cap : Nat} (hp : ∀ a, p = some a → w.heap.size ≤ a.block) (g : w1.grownBy w2 (Value.slice p n cap).ownBlock) : Below w.heap.size w w2 :=
  ⟨g.os.trans hb.os, g.tape.trans hb.tape, g.output.trans hb.output, Nat.le_trans hb.size g.size, fun k hk => (g.block k (Nat.lt_of_lt_of_le hk hb.size) (by
    intro e
    obtain ⟨a, q1, q2⟩ := IRow.own e.symm
    have := hp a q1
    omega)).trans (hb.block k hk)⟩

set_option maxRecDepth 100000 in
set_option maxHeartbeats 2000000 in
theorem references_any {S : Nat → Prop} {tag : Nat → Nat × Nat} {w : World} {b j fb : Nat} {o : Ob} (h : OAt S tag w b j fb o) (hl : o.kinds.length ≤ 32) (hS : ∀ b, S b → b < w.heap.size) :
    Calls Tryz.prog 156 #[.pointer (some ⟨b, 0, none⟩)] w (ListBack w (refsTo o o.kinds.length)) := by
  obtain ⟨p, c, h1, h2⟩ := h.head
  have HK := hide h.kind
  have HV := hide h.val
  have H2 := hide h2
  have hbl := hS _ h.s
  clear h2 h
  go_enter Tryz.func156, Tryz.ntmps156
  go_wp2_with fail
  go_loopw [3, 12] (fun tv iv wr => ∃ i g cap : Nat, i ≤ o.kinds.length ∧ iv = .int .i64 i ∧ tv = .slice (some ⟨g, 0, none⟩) (refsTo o i).length cap ∧ IRow w.heap.size wr (some ⟨g, 0, none⟩) cap (refsTo o i) ∧ Below w.heap.size w wr) (fun _ iv _ => o.kinds.length - (intOf iv).toNat)
  case atStart =>
    refine ⟨0, w.heap.size, 0, by omega, rfl, rfl, ?_, Below.alloc0 _ _⟩
    exact IRow.empty _ (Nat.le_refl _) (by simpa using heap_alloc_new w (.cells #[] 3))
  case round =>
    obtain ⟨i, g, cap, hi, rfl, rfl, hrow, hbl'⟩ := hrel
    have HI := hide hrow
    have HBl := hide hbl'
    have hgl := (hrow.lt rfl).2
    have hlen := refsTo_len o i
    have hsz := hbl'.size
    by_cases hlt : i < o.kinds.length
    · have bi : (i : Int) < (o.kinds.length : Int) := by omega
      obtain ⟨rfl, hSf, _⟩ := H2.out (by omega)
      have hfl := hS _ hSf
      have ck : wr.cell? ⟨fb, i * 2, none⟩ = some (.int .i64 (o.kinds.getD i 0)) := by rw [hbl'.cell hfl]; exact HK.out i hlt
      have cv : wr.cell? ⟨fb, i * 2 + 1, none⟩ = some (.int .i64 (o.vals.getD i 0)) := by rw [hbl'.cell hfl]; exact HV.out i hlt
      have HN : Hid (refsTo o (i + 1) = refsTo o i ++ (if o.kinds.getD i 0 = 2 ∧ o.vals.getD i 0 ≠ 0 then [o.vals.getD i 0] else [])) := rfl
      clear hrow hbl'
      generalize o.kinds.getD i 0 = kd at *
      generalize o.vals.getD i 0 = vl at *
      by_cases c1 : kd = 2
      · subst c1
        by_cases c2 : vl = 0
        · subst c2
          go_wp2_with fail
          go_roundw
          case rel =>
            refine ⟨i + 1, g, cap, by omega, by go_num, by rw [HN.out]; simp, ?_, ?_⟩
            · rw [HN.out]; simp only [ne_eq, not_true_eq_false, and_false, if_false, List.append_nil]
              refine HI.out.block (fun a ha => ?_)
              cases ha
              refine Below.block (B := wr.heap.size) ?_ _ hgl
              repeat (first | exact Below.alloc0 _ _ | refine Below.setCell ?_ (by simp) _ | refine Below.alloc ?_ (by simp) _)
            · refine HBl.out.trans (Below.mono (B := wr.heap.size) ?_ hsz)
              repeat (first | exact Below.alloc0 _ _ | refine Below.setCell ?_ (by simp) _ | refine Below.alloc ?_ (by simp) _)
          case measure => simp [intOf]; omega
        · have c2' : (vl != 0) = true := by simpa using c2
          go_wp2_with (first
            | (at_builtin; refine wpList_append_ints _ rfl _ _ rfl w.heap.size (some ⟨g, 0, none⟩) cap (refsTo o i) _ rfl rfl ?own _ 1 1 [vl] rfl rfl ?cell (by omega) (by simp; omega) ?_)
            | fail)
          case own =>
            refine HI.out.block (fun a ha => ?_)
            cases ha
            refine Below.block (B := wr.heap.size) ?_ _ hgl
            repeat (first | exact Below.alloc0 _ _ | refine Below.setCell ?_ (by simp) _ | refine Below.alloc ?_ (by simp; try omega) _)
          intro p' cap' w' hrow' hgr hnn hloc
          obtain ⟨g', rfl⟩ : ∃ g', p' = some ⟨g', 0, none⟩ := by
            obtain ⟨g', e, _⟩ := hrow'.at (Or.inr hnn)
            exact ⟨g', e⟩
          have HRow := hide hrow'
          have HB1 : Hid (Below w.heap.size w w') := by
            refine below_own (w1 := (wr.alloc _).alloc _) ?_ (fun a ha => ?_) hgr
            · refine HBl.out.trans (Below.mono (B := wr.heap.size) ?_ hsz)
              exact (Below.alloc0 _ _).trans ((Below.refl _ _).alloc (by simp) _)
            · cases ha; exact (HI.out.lt rfl).1
          clear hrow' hgr hloc hnn
          go_wp2_with fail
          go_roundw
          case rel =>
            have e2 : refsTo o (i + 1) = refsTo o i ++ [vl] := by rw [HN.out]; simp [c2]
            exact ⟨i + 1, g', cap', by omega, by go_num, by rw [e2]; simp, by rw [e2]; exact HRow.out, HB1.out⟩
          case measure => simp [intOf]; omega
      · have c1' : (kd == 2) = false := by simpa using c1
        go_wp2_with fail
        go_roundw
        case rel =>
          refine ⟨i + 1, g, cap, by omega, by go_num, by rw [HN.out]; simp [c1], ?_, ?_⟩
          · rw [HN.out]; simp only [c1, false_and, if_false, List.append_nil]
            refine HI.out.block (fun a ha => ?_)
            cases ha
            refine Below.block (B := wr.heap.size) ?_ _ hgl
            repeat (first | exact Below.alloc0 _ _ | refine Below.setCell ?_ (by simp) _ | refine Below.alloc ?_ (by simp) _)
          · refine HBl.out.trans (Below.mono (B := wr.heap.size) ?_ hsz)
            repeat (first | exact Below.alloc0 _ _ | refine Below.setCell ?_ (by simp) _ | refine Below.alloc ?_ (by simp) _)
        case measure => simp [intOf]; omega
    · have bi : ¬ (i : Int) < (o.kinds.length : Int) := by omega
      have ei : i = o.kinds.length := by omega
      have HEi := hide ei
      clear ei
      go_wp2_with fail
      go_ret
      exact ⟨g, cap, by rw [← HEi.out]; rfl, by rw [← HEi.out]; exact HI.out, HBl.out⟩
end Go.Proofs.YtcnmfljpmpgnjaaGreatDoor

namespace Go.Proofs.YtcnmfljpmpgnjaaGreatDoor
open Go.RowKit Go.Maps
open Tm (H Ob Sl Why)

/-- Keys of some of the first N. -/
structure KeysD (D : DataW Unit) (N : Nat) : Prop where
  tidy : Tidy D
  ok : KeysOK D
  only : ∀ kl, Maps.has D kl = true → ∃ j, j < N ∧ kl = key j

theorem KeysD.size {N : Nat} : ∀ {D : DataW Unit}, KeysD D N → Maps.size D = cnt (fun j => Maps.has D (key j)) N := by
  induction N with
  | zero =>
    intro D h
    obtain ⟨es, rfl, _⟩ := h.tidy
    cases es with
    | nil => rfl
    | cons p es =>
      have h2 : Maps.has (DataW.map (p :: es)) p.1 = true := by
        simp only [Maps.has_eq, List.any_cons]
        rw [WideAt.sameKey_self (h.ok _ rfl p (List.mem_cons_self ..))]; rfl
      obtain ⟨j, hj, _⟩ := h.only p.1 h2
      omega
  | succ N ih =>
    intro D h
    have h2 : KeysD (D.del (key N)) N := by
      refine ⟨h.tidy.del _, h.ok.del h.tidy.isMap _, fun kl hk => ?_⟩
      by_cases e : kl = key N
      · subst e; rw [has_del_same] at hk; cases hk
      · rw [has_del_other e] at hk
        obtain ⟨j, h1, h3⟩ := h.only kl hk
        have : j ≠ N := fun e2 => e (by rw [h3, e2])
        exact ⟨j, by omega, h3⟩
    have h3 := Maps.size_del (k := key N) h.tidy
    rw [ih h2] at h3
    simp only [cnt]
    rw [← h3, cnt_congr (al := fun j => Maps.has (D.del (key N)) (key j)) (al' := fun j => Maps.has D (key j)) N (fun j hj => has_del_other (fun e => by have := key_inj e; omega))]

theorem cnt_mono (al al' : Nat → Bool) (n : Nat) (h : ∀ j, j < n → al j = true → al' j = true) : cnt al n ≤ cnt al' n := by
  induction n with
  | zero => exact Nat.le_refl _
  | succ n ih =>
    have h1 := ih (fun j hj => h j (by omega))
    have h2 := h n (by omega)
    simp only [cnt]
    by_cases e : al n = true
    · rw [if_pos e, if_pos (h2 e)]; omega
    · rw [if_neg e]; omega
theorem cnt_mono_lt (al al' : Nat → Bool) (n i : Nat) (hi : i < n) (h : ∀ j, j < n → al j = true → al' j = true) (h1 : al i = false) (h2 : al' i = true) : cnt al n < cnt al' n := by
  induction n with
  | zero => omega
  | succ n ih =>
    simp only [cnt]
    by_cases e : i = n
    · subst e; have := cnt_mono al al' i (fun j hj => h j (by omega)); rw [h1, h2]; simp; omega
    · have := ih (by omega) (fun j hj => h j (by omega))
      have h3 := h n (by omega)
      by_cases e : al n = true
      · rw [if_pos e, if_pos (h3 e)]; omega
      · rw [if_neg e]; omega

theorem KeysD.put {D : DataW Unit} {N : Nat} (h : KeysD D N) (j : Nat) (hj : j < N) (d : DataW Unit) (hok : KeysOK (D.put (key j) d)) : KeysD (D.put (key j) d) N := by
  refine ⟨h.tidy.put (key_is j) _, hok, fun kl hk => ?_⟩
  by_cases e : kl = key j
  · exact ⟨j, hj, e⟩
  · rw [has_put_other e] at hk; exact h.only kl hk

theorem ownsMap_keysU {P : Program} {k : TypeId} {w : World} {b n : Nat} {D : DataW Unit} (h : w.ownsMap P k unitElem b n D) (K : Keyed P k) : KeysOK D := by
  obtain ⟨es, rfl, _, h2⟩ := h.entries K
  intro es' e; cases e; exact h2

def mapSize (w : World) (b : Nat) : Nat := match w.heap[b]? with
  | some (.map es _) => es.size
  | _ => 0
theorem mapSize_eq {P : Program} {k : TypeId} {R : Value → Option (DataW Unit × List MemPlace)} {w : World} {b n : Nat} {D : DataW Unit} (h : w.ownsMap P k R b n D) : mapSize w b = Maps.size D := by
  obtain ⟨es, c, hb, F, hs, rfl⟩ := h
  simp [mapSize, hb, Maps.size, length_sorted]

/-- To whom one comes from some. -/
def FromZ (h : H) (zs : List Int) (n : Nat) : Prop := ∀ P : Nat → Prop, (∀ x ∈ zs, P x.toNat) → (∀ m k, P m → Tm.Edge h m k → P k) → P n
theorem FromZ.edge {h : H} {zs : List Int} {m n : Nat} (r : FromZ h zs m) (e : Tm.Edge h m n) : FromZ h zs n := fun P h1 h2 => h2 m n (r P h1 h2) e
theorem FromZ.root {h : H} {zs : List Int} {x : Int} (hx : x ∈ zs) : FromZ h zs x.toNat := fun _ h1 _ => h1 x hx

/-- How far the search has come: D: where it was; ahead: where it is still to go. -/
structure Search (h : H) (zs : List Int) (D : DataW Unit) (ahead : List Int) : Prop where
  keys : KeysD D h.l.length
  come : ∀ j, j < h.l.length → Maps.has D (key j) = true → FromZ h zs (j + 1)
  ahd : ∀ x ∈ ahead, ∃ j, j < h.l.length ∧ alive h j = true ∧ x = (j : Int) + 1 ∧ FromZ h zs (j + 1)
  roots : ∀ x ∈ zs, Maps.has D (.int .i64 x) = true ∨ x ∈ ahead
  closed : ∀ j k : Nat, j < h.l.length → Maps.has D (key j) = true → Tm.Edge h (j + 1) k → Maps.has D (.int .i64 (k : Int)) = true ∨ (k : Int) ∈ ahead
  alv : ∀ j, j < h.l.length → Maps.has D (key j) = true → alive h j = true
  len : ahead.length + 33 * (cnt (alive h) h.l.length - Maps.size D) ≤ 33 * cnt (alive h) h.l.length + zs.length

theorem Search.start (h : H) (zs : List Int) (hr : ∀ x ∈ zs, ∃ j, j < h.l.length ∧ alive h j = true ∧ x = (j : Int) + 1) : Search h zs (.map []) zs := by
  refine ⟨⟨tidy_empty, fun es e p hp => ?_, fun kl hk => ?_⟩, fun j hj hk => ?_, fun x hx => ?_, fun x hx => Or.inr hx, fun j k hj hk => ?_, fun j hj hk => ?_, ?_⟩
  · cases e; simp at hp
  · simp [Maps.has] at hk
  · simp [Maps.has] at hk
  · obtain ⟨j, h1, h2, h3⟩ := hr x hx
    refine ⟨j, h1, h2, h3, ?_⟩
    have := FromZ.root (h := h) hx
    rw [h3, show ((j : Int) + 1).toNat = j + 1 from by omega] at this
    exact this
  · simp [Maps.has] at hk
  · simp [Maps.has] at hk
  · simp only [Maps.size, List.length_nil]; omega

theorem take_last {zs : List Int} {n : Nat} (hn : n + 1 = zs.length) : zs = zs.take n ++ [zs.getD n 0] := by
  rw [← Tm.take_getD zs 0 n (by omega), hn, List.take_length]

theorem mem_take_last {zs : List Int} {n : Nat} (hn : n + 1 = zs.length) {x : Int} (hx : x ∈ zs) : x ∈ zs.take n ∨ x = zs.getD n 0 := by
  rw [take_last hn] at hx
  simpa using hx

theorem Search.seen {h : H} {zs ahead : List Int} {D : DataW Unit} (s : Search h zs D ahead) (n j : Nat) (hn : n + 1 = ahead.length) (hj : ahead.getD n 0 = (j : Int) + 1) (hk : Maps.has D (key j) = true) : Search h zs D (ahead.take n) := by
  refine ⟨s.keys, s.come, fun x hx => s.ahd x (List.mem_of_mem_take hx), fun x hx => ?_, fun i k hi hk' he => ?_, s.alv, ?_⟩
  · rcases s.roots x hx with h1 | h1
    · exact Or.inl h1
    · rcases mem_take_last hn h1 with h2 | h2
      · exact Or.inr h2
      · exact Or.inl (by rw [h2, hj]; exact hk)
  · rcases s.closed i k hi hk' he with h1 | h1
    · exact Or.inl h1
    · rcases mem_take_last hn h1 with h2 | h2
      · exact Or.inr h2
      · exact Or.inl (by rw [h2, hj]; exact hk)
  · have := s.len
    rw [List.length_take]
    omega

theorem Search.step {h : H} {zs ahead : List Int} {D : DataW Unit} (g : Tm.Good h) (s : Search h zs D ahead) (n j : Nat) (hn : n + 1 = ahead.length) (hj : ahead.getD n 0 = (j : Int) + 1) (hjl : j < h.l.length) (hja : alive h j = true) (hz : FromZ h zs (j + 1)) (hk : Maps.has D (key j) = false) (d : DataW Unit) (hok : KeysOK (D.put (key j) d)) :
    Search h zs (D.put (key j) d) (ahead.take n ++ refsTo (h.l.getD j Tm.ob0) (h.l.getD j Tm.ob0).kinds.length) ∧ Maps.size (D.put (key j) d) = Maps.size D + 1 ∧ Maps.size D < cnt (alive h) h.l.length := by
  have hsz : Maps.size (D.put (key j) d) = Maps.size D + 1 := by rw [size_put s.keys.tidy, hk]; rfl
  have hlt : Maps.size D < cnt (alive h) h.l.length := by rw [s.keys.size]; exact cnt_mono_lt _ _ _ j hjl s.alv hk hja
  have hhas : ∀ kl, Maps.has D kl = true → Maps.has (D.put (key j) d) kl = true := fun kl h1 => by
    by_cases e : kl = key j
    · subst e; exact has_put_same s.keys.tidy.isMap (key_is j) _
    · rw [has_put_other e]; exact h1
  have hself := has_put_same (k := key j) s.keys.tidy.isMap (key_is j) d
  refine ⟨⟨s.keys.put j hjl d hok, fun i hi h1 => ?_, fun x hx => ?_, fun x hx => ?_, fun i k hi h1 he => ?_, fun i hi h1 => ?_, ?_⟩, hsz, hlt⟩
  · by_cases e : i = j
    · subst e; exact hz
    · rw [has_put_other (fun e2 => e (key_inj e2))] at h1; exact s.come i hi h1
  · rcases List.mem_append.1 hx with h1 | h1
    · exact s.ahd x (List.mem_of_mem_take h1)
    · obtain ⟨q, q1, q2, q3, q4⟩ := (mem_refsTo _ _ _).1 h1
      have hb := g.bound j q hjl q1 q2
      rw [q3] at hb
      have hg := g.refs j q hjl (by unfold alive at hja; simpa using hja) q1 q2 (by rw [q3]; exact q4)
      rw [q3] at hg
      obtain ⟨i, hi, rfl⟩ := key_at (show 0 < x by omega) hb.2
      refine ⟨i, hi, ?_, rfl, hz.edge ⟨j, q, hjl, rfl, q1, q2, by rw [q3]; omega, by omega⟩⟩
      rw [ob_succ] at hg
      unfold alive; rw [hg]; rfl
  · rcases s.roots x hx with h1 | h1
    · exact Or.inl (hhas _ h1)
    · rcases mem_take_last hn h1 with h2 | h2
      · exact Or.inr (List.mem_append_left _ h2)
      · exact Or.inl (by rw [h2, hj]; exact hself)
  · by_cases e : i = j
    · subst e
      obtain ⟨j', q, q0, q1, q2, q3, q4, q5⟩ := he
      obtain rfl : j' = i := by omega
      exact Or.inr (List.mem_append_right _ ((mem_refsTo _ _ _).2 ⟨q, q2, q3, q4, by omega⟩))
    · rw [has_put_other (fun e2 => e (key_inj e2))] at h1
      rcases s.closed i k hi h1 he with h2 | h2
      · exact Or.inl (hhas _ h2)
      · rcases mem_take_last hn h2 with h3 | h3
        · exact Or.inr (List.mem_append_left _ h3)
        · exact Or.inl (by rw [h3, hj]; exact hself)
  · by_cases e : i = j
    · subst e; exact hja
    · rw [has_put_other (fun e2 => e (key_inj e2))] at h1; exact s.alv i hi h1
  · have := s.len
    have hr := refsTo_len (h.l.getD j Tm.ob0) (h.l.getD j Tm.ob0).kinds.length
    have h32 := (g.eq j hjl).2
    rw [List.length_append, List.length_take, hsz]
    omega

/-- The search is over: it was where one comes. -/
theorem Search.over {h : H} {zs : List Int} {D : DataW Unit} (s : Search h zs D []) (hz : ∀ x ∈ zs, 0 < x) (j : Nat) (hj : j < h.l.length) : Maps.has D (key j) = true ↔ FromZ h zs (j + 1) := by
  refine ⟨s.come j hj, fun hf => ?_⟩
  have := hf (fun m => ∃ i, m = i + 1 ∧ Maps.has D (key i) = true) (fun x hx => ?_) (fun m k hm he => ?_)
  · obtain ⟨i, e, h1⟩ := this
    obtain rfl : j = i := by omega
    exact h1
  · have h0 := hz x hx
    rcases s.roots x hx with h1 | h1
    · refine ⟨x.toNat - 1, by omega, ?_⟩
      have : key (x.toNat - 1) = .int .i64 x := by unfold key; congr 1; omega
      rw [this]; exact h1
    · simp at h1
  · obtain ⟨i, rfl, h1⟩ := hm
    obtain ⟨i', hi', e⟩ := s.keys.only _ h1
    obtain rfl := key_inj e
    have he' := he
    obtain ⟨j', q, q0, q1, q2, q3, q4, q5⟩ := he'
    rcases s.closed i k hi' h1 he with h2 | h2
    · refine ⟨k - 1, by omega, ?_⟩
      have : key (k - 1) = .int .i64 (k : Int) := by unfold key; congr 1; omega
      rw [this]; exact h2
    · simp at h2
end Go.Proofs.YtcnmfljpmpgnjaaGreatDoor
