import Derived.Test.YtcnmfljpmpgnjaaGreatDoorJ00
import Derived.WalkKit
import Derived.Deep.QuietTactic
import Derived.BigQuiet
namespace Go.Proofs.YtcnmfljpmpgnjaaGreatDoor
open Go.RowKit

/-- What an append of one cell leaves. -/
structure Apd (e : TypeId) (w w' : World) (bL cL bL' cL' n : Nat) (v : Value) : Prop where
  os : w'.os = w.os
  tape : w'.tape = w.tape
  output : w'.output = w.output
  size : w.heap.size ≤ w'.heap.size
  old : ∀ b, b < w.heap.size → b ≠ bL' → w'.heap[b]? = w.heap[b]?
  bl : (bL' = bL ∧ 0 < cL) ∨ w.heap.size ≤ bL'
  lt : bL' < w'.heap.size
  cap : n + 1 ≤ cL'
  capm : cL' ≤ maxLen
  block : ∃ cur : Array Value, w'.heap[bL']? = some (.cells cur e (0, 0)) ∧ cur.size = cL'
  keep : ∀ i, i < n → w'.cell? ⟨bL', i, none⟩ = w.cell? ⟨bL, i, none⟩
  last : w'.cell? ⟨bL', n, none⟩ = some v

theorem apd_of_owns {e : TypeId} {w w' : World} {bL cL n : Nat} {v : Value} {cur : Array Value} {base : Nat} {row : Option Nat} {v' : Value} (hn : n ≤ cur.size) (hcur : 0 < n → w.heap[bL]? = some (.cells cur e (0, 0)))
    (hown : w'.ownsRow base e 1 v' (n + 1) (cur.toList.take n ++ [v])) (hg : w.grownBy w' row)
    (hb : ∀ g, v'.ownBlock = some g → (g = bL ∧ 0 < cL ∧ row = some g) ∨ (w.heap.size ≤ g ∧ row = none)) :
    ∃ bL' cL', v' = .slice (some ⟨bL', 0, none⟩) (n + 1) cL' ∧ Apd e w w' bL cL bL' cL' n v := by
  obtain ⟨h1, h2⟩ := hown
  rcases h2 with ⟨_, h2⟩ | ⟨g, cap, cur', rfl, hbase, hg', hcap, hcm, hsz, htk⟩
  · omega
  · have hlt : g < w'.heap.size := by
      rcases Nat.lt_or_ge g w'.heap.size with h | h
      · exact h
      · rw [Array.getElem?_eq_none h] at hg'; cases hg'
    have hcell : ∀ i, w'.cell? ⟨g, i, none⟩ = cur'[i]? := fun i => by simp [World.cell?, hg']
    have hti : ∀ i, i < n + 1 → cur'[i]? = (cur.toList.take n ++ [v])[i]? := fun i hi => by
      rw [← htk, List.getElem?_take, if_pos (by omega)]; simp
    refine ⟨g, cap, rfl, hg.os, hg.tape, hg.output, hg.size, fun b hb1 hb2 => ?_, ?_, hlt, hcap, hcm, ⟨cur', hg', by omega⟩, fun i hi => ?_, ?_⟩
    · refine hg.block b hb1 (fun e => ?_)
      rcases hb g rfl with ⟨_, _, q⟩ | ⟨_, q⟩
      · rw [q] at e; exact hb2 (Option.some.inj e)
      · rw [q] at e; cases e
    · rcases hb g rfl with ⟨q1, q2, _⟩ | ⟨q1, _⟩
      · exact Or.inl ⟨q1, q2⟩
      · exact Or.inr q1
    · rw [hcell, hti i (by omega), List.getElem?_append_left (by simp; omega), List.getElem?_take, if_pos hi]
      simp [World.cell?, hcur (by omega)]
    · rw [hcell, hti n (by omega), List.getElem?_append_right (by simp; omega)]
      simp [Nat.min_eq_left hn]

theorem wpList_put {P : Program} (w : World) {ops : Array Oper} {rest : List Oper} {o : Oper} {a : Act} {Q : Exit → Act → World → Prop}
    (hg : o.guard = none) (s x : Operand) (t : TypeId) (hop : o.op = Op.call { callee := Callee.builtin Builtin.append, args := #[s, x], argTypes := #[t, t] })
    (e : TypeId) (i : TypeInfo) (z : Value) (bytes : Nat) (h1 : P.underlying t = some (.slice e)) (h2 : P.info? e = some i) (h3 : i.zero = some z) (h4 : i.size = 1) (h5 : i.bytes = bytes) (h6 : z.cells.size = 1)
    (pL : Option Addr) (n cL bL : Nat) (hs : a.eval s = .slice pL n cL) (hL : 0 < cL → pL = some ⟨bL, 0, none⟩ ∧ ∃ cur : Array Value, w.heap[bL]? = some (.cells cur e (0, 0)) ∧ cur.size = cL) (hL0 : cL = 0 → pL = none) (hcap : n ≤ cL) (hcm : cL ≤ maxLen)
    (ad : Addr) (c : Nat) (v : Value) (hx : a.eval x = .slice (some ad) 1 c) (hc : w.cell? (ad.add 0) = some v) (hv : v.oneCell' = true)
    (b1 : n + 1 ≤ maxLen) (b2 : (n + 1) * bytes ≤ 140737488355328)
    (hK : ∀ w' bL' cL', Apd e w w' bL cL bL' cL' n v → wpList P ops Q rest (a.put o.dst (.slice (some ⟨bL', 0, none⟩) (n + 1) cL')) w') :
    wpList P ops Q (o :: rest) a w := by
  have hnews : ∀ j u, [v][j]? = some u → w.cell? (ad.add j) = some u := fun j u hj => by
    match j, hj with
    | 0, hj => simp at hj; subst hj; exact hc
  have hone : ∀ u ∈ [v], u.oneCell' = true := fun u hu => by simp at hu; subst hu; exact hv
  rcases Nat.eq_zero_or_pos cL with h0 | h0
  · have hn : n = 0 := by omega
    subst hn
    refine wpList_append_grows w hg s x t hop e i z 1 bytes h1 h2 h3 h4 h5 h6 (by decide) pL 0 cL [] hs (fun _ => ⟨rfl, h0⟩) rfl (by intro _ _ _ _ h; simp at h) ad 1 c [v] hx rfl hnews hone (by omega) b1 b2 ?_
    intro v' w' hown hgr
    obtain ⟨bL', cL', rfl, ap⟩ := apd_of_owns (cur := #[]) (bL := bL) (cL := cL) (Nat.zero_le _) (fun h => absurd h (by omega)) (by simpa using hown) hgr (fun g hg => Or.inr ⟨(hown.lt g hg).1, rfl⟩)
    exact hK w' bL' cL' ap
  · obtain ⟨rfl, cur, hb, hsz⟩ := hL h0
    by_cases hf : n + 1 ≤ cL
    · refine wpList_append_fits w hg s x t hop 0 e i 1 h1 h2 h4 bL n cL (cur.toList.take n) hs ⟨by simp; omega, .inr ⟨bL, cL, cur, rfl, Nat.zero_le _, hb, hcap, hcm, by omega, by simp⟩⟩ ad 1 c [v] hx rfl hnews hone hf ?_
      intro w' hown hgr
      obtain ⟨bL', cL', e1, ap⟩ := apd_of_owns (cur := cur) (bL := bL) (cL := cL) (by omega) (fun _ => hb) hown hgr (fun g hg => Or.inl ⟨by simpa [Value.ownBlock] using hg.symm, h0, by simp only [Value.ownBlock, Option.some.injEq] at hg; rw [← hg]⟩)
      simp only [Value.slice.injEq, Option.some.injEq, Addr.mk.injEq, and_true, true_and] at e1
      obtain ⟨rfl, rfl⟩ := e1
      exact hK w' bL cL ap
    · refine wpList_append_grows w hg s x t hop e i z 1 bytes h1 h2 h3 h4 h5 h6 (by decide) _ n cL (cur.toList.take n) hs (fun e => by cases e) (by simp; omega) (fun b hb' j u hj => ?_) ad 1 c [v] hx rfl hnews hone (by omega) b1 b2 ?_
      · simp only [Option.some.injEq] at hb'
        subst hb'
        rw [List.getElem?_take] at hj
        split at hj
        · rw [Addr.add_lit]
          simpa [World.cell?, hb] using hj
        · cases hj
      · intro v' w' hown hgr
        obtain ⟨bL', cL', rfl, ap⟩ := apd_of_owns (cur := cur) (bL := bL) (cL := cL) (by omega) (fun _ => hb) hown hgr (fun g hg => Or.inr ⟨(hown.lt g hg).1, rfl⟩)
        exact hK w' bL' cL' ap
end Go.Proofs.YtcnmfljpmpgnjaaGreatDoor

namespace Go.Proofs.YtcnmfljpmpgnjaaGreatDoor
open Go.RowKit
open Tm (H Ob Sl Why)

theorem in_any (n lo hi : Int) (w : World) :
    Calls Tryz.prog 161 #[.int .i64 n, .int .i64 lo, .int .i64 hi] w fun e w' => e = .returned (.bool (Tm.inR n lo hi)) ∧ w' = w := by
  by_cases h1 : lo ≤ n
  · go_enter Tryz.func161, Tryz.ntmps161
    go_wp2
    go_ret
    exact ⟨by simp [Tm.inR, h1], rfl⟩
  · have h2 : decide (lo ≤ n) = false := by simpa using h1
    go_enter Tryz.func161, Tryz.ntmps161
    go_wp2
    go_ret
    exact ⟨by simp [Tm.inR]; omega, rfl⟩

/-- A table of slots in memory. -/
structure TabAt (S : Nat → Prop) (w : World) (a bt : Nat) (k : Nat) (l : List Sl) : Prop where
  sa : S a
  sb : S bt
  len : l.length ≤ 16
  head : ∃ c, w.cell? ⟨a, 6 + k, none⟩ = some (.slice (some ⟨bt, 0, none⟩) l.length c)
  gen : ∀ i, i < l.length → w.cell? ⟨bt, i * 3, none⟩ = some (.int .i64 (l.getD i Tm.sl0).gen)
  ob : ∀ i, i < l.length → w.cell? ⟨bt, i * 3 + 1, none⟩ = some (.int .i64 (l.getD i Tm.sl0).ob)
  frame : ∀ i, i < l.length → w.cell? ⟨bt, i * 3 + 2, none⟩ = some (.int .i64 (l.getD i Tm.sl0).frame)
  soft : ∀ i, w.frozen? ⟨bt, i, none⟩ = false

theorem TabAt.same {S : Nat → Prop} {w w' : World} {a bt k : Nat} {l : List Sl} (h : TabAt S w a bt k l) (hs : Same S w w') : TabAt S w' a bt k l :=
  ⟨h.sa, h.sb, h.len, by rw [hs.cell h.sa]; exact h.head, fun i hi => by rw [hs.cell h.sb]; exact h.gen i hi, fun i hi => by rw [hs.cell h.sb]; exact h.ob i hi, fun i hi => by rw [hs.cell h.sb]; exact h.frame i hi, fun i => by rw [hs.frozen h.sb]; exact h.soft i⟩

set_option maxHeartbeats 1000000 in
theorem free_any (S : Nat → Prop) (w : World) (a bt k : Nat) (l : List Sl) (hk : k < 4) (ht : TabAt S w a bt k l) :
    Calls Tryz.prog 167 #[.pointer (some ⟨a, 0, none⟩), .int .i64 k] w fun e w' => e = .returned (.int .i64 (Tm.freeFrom l 0)) ∧ w' = w := by
  obtain ⟨hcap, hh⟩ := ht.head
  have hl := ht.len
  have b0 : (k : Int) < 4 := by omega
  go_enter Tryz.func167, Tryz.ntmps167
  go_wp2_with fail
  go_loop [5] (fun i => ∃ j : Nat, j ≤ l.length ∧ i = .int .i64 j ∧ Tm.freeFrom l 0 = Tm.freeFrom (l.drop j) j) (fun i => l.length - (intOf i).toNat)
  case atStart => exact ⟨0, by omega, rfl, by simp⟩
  case round =>
    obtain ⟨j, hj, rfl, hf⟩ := hrel
    have HF : Hid (Tm.freeFrom l 0 = Tm.freeFrom (l.drop j) j) := hf
    clear hf
    by_cases hlt : j < l.length
    · have c1 := ht.gen j hlt
      have c2 := ht.ob j hlt
      have HD := hide (drop_getD l j hlt)
      generalize l.getD j Tm.sl0 = s at *
      have b1 : (j : Int) < (l.length : Int) := by omega
      by_cases ho : s.ob = 0
      · by_cases hg : s.gen < 50
        · go_wp2_with fail
          go_ret
          exact ⟨by rw [HF.out, HD.out]; simp [Tm.freeFrom, ho, hg], rfl⟩
        · have hg' : decide (s.gen < 50) = false := by simpa using hg
          go_wp2_with fail
          go_round
          case rel => exact ⟨j + 1, by omega, by go_num, by rw [HF.out, HD.out, Tm.freeFrom, if_neg (by omega)]; rfl⟩
          case measure => simp [intOf]; omega
      · have ho' : (s.ob == 0) = false := by simpa using ho
        go_wp2_with fail
        go_round
        case rel => exact ⟨j + 1, by omega, by go_num, by rw [HF.out, HD.out, Tm.freeFrom, if_neg (by omega)]; rfl⟩
        case measure => simp [intOf]; omega
    · have b1 : ¬ (j : Int) < (l.length : Int) := by omega
      go_wp2_with fail
      go_ret
      exact ⟨by rw [HF.out, List.drop_eq_nil_of_le (by omega)]; rfl, rfl⟩

/-- The three tables of a heap of the document's. -/
structure Tabs (S : Nat → Prop) (w : World) (a : Nat) (bt : Nat → Nat) (h : H) : Prop where
  sa : S a
  t0 : h.t 0 = []
  zero : w.cell? ⟨a, 6, none⟩ = some (.slice none 0 0)
  tab : ∀ k, 0 < k → k < 4 → TabAt S w a (bt k) k (h.t k)

theorem Tabs.same {S : Nat → Prop} {w w' : World} {a : Nat} {bt : Nat → Nat} {h : H} (ht : Tabs S w a bt h) (hs : Same S w w') : Tabs S w' a bt h :=
  ⟨ht.sa, ht.t0, by rw [hs.cell ht.sa]; exact ht.zero, fun k h0 h4 => (ht.tab k h0 h4).same hs⟩

theorem Tabs.head {S : Nat → Prop} {w : World} {a : Nat} {bt : Nat → Nat} {h : H} (ht : Tabs S w a bt h) (k : Nat) (hk : k < 4) :
    ∃ v c, w.cell? ⟨a, 6 + k, none⟩ = some (.slice v (h.t k).length c) ∧ (h.t k).length ≤ 16 := by
  rcases Nat.eq_zero_or_pos k with rfl | hp
  · exact ⟨none, 0, by rw [ht.t0]; exact ht.zero, by rw [ht.t0]; simp⟩
  · obtain ⟨c, hc⟩ := (ht.tab k hp hk).head
    exact ⟨_, c, hc, (ht.tab k hp hk).len⟩

set_option maxHeartbeats 1000000 in
theorem slot_any (S : Nat → Prop) (w : World) (a : Nat) (bt : Nat → Nat) (h : H) (x : Int) (hx : x < 9223372036854775808) (ht : Tabs S w a bt h) :
    Calls Tryz.prog 172 #[.pointer (some ⟨a, 0, none⟩), .int .i64 x] w fun e w' => e = .returned (.int .i64 (h.slot x)) ∧ w' = w := by
  by_cases h0 : x ≤ 0
  · go_enter Tryz.func172, Tryz.ntmps172
    go_wp2_with fail
    go_ret
    exact ⟨by simp [H.slot, h0], rfl⟩
  · have h0' : decide (x ≤ 0) = false := by simpa using h0
    by_cases h4 : x % 4 = 0
    · go_enter Tryz.func172, Tryz.ntmps172
      go_wp2_with fail
      go_ret
      exact ⟨by simp [H.slot, h4], rfl⟩
    · have h4' : (x % 4 == 0) = false := by simpa using h4
      obtain ⟨v, vc, hv, hl⟩ := ht.head (x % 4).toNat (by omega)
      by_cases h5 : ((h.t (x % 4).toNat).length : Int) ≤ x / 4 % 64
      · go_enter Tryz.func172, Tryz.ntmps172
        go_wp2_with fail
        go_ret
        exact ⟨by simp [H.slot, h5], rfl⟩
      · have hs : h.slot x = if Tm.inR (x / 256) 1 50 = true then x / 4 % 64 else -1 := by
          simp only [H.slot, Tm.inR, decide_eq_true_eq]; rw [if_neg (by omega)]
        have HS := hide hs
        clear hs
        go_enter Tryz.func172, Tryz.ntmps172
        go_wp2_with fail
        refine (in_any _ _ _ _).mono ?_
        rintro e w' ⟨rfl, rfl⟩
        cases hi : Tm.inR (x / 256) 1 50
        · go_wp2_with fail
          go_ret
          exact ⟨by rw [HS.out, hi]; rfl, rfl⟩
        · go_wp2_with fail
          go_ret
          exact ⟨by rw [HS.out, hi]; rfl, rfl⟩
end Go.Proofs.YtcnmfljpmpgnjaaGreatDoor

namespace Go.Proofs.YtcnmfljpmpgnjaaGreatDoor
open Go.RowKit
open Tm (H Ob Sl Why)


def whyV (y : Why) : Value := .agg #[.int .i64 y.reason, .int .i64 y.handle]

set_option maxHeartbeats 1000000 in
theorem of_any (S : Nat → Prop) (w : World) (a : Nat) (bt : Nat → Nat) (h : H) (x : Int) (hx : x < 9223372036854775808) (hS : ∀ b, S b → b < w.heap.size) (ht : Tabs S w a bt h) :
    Calls Tryz.prog 164 #[.pointer (some ⟨a, 0, none⟩), .int .i64 x] w fun e w' => e = .returned (.tuple #[.int .i64 (h.of x).1, whyV (h.of x).2]) ∧ Below w.heap.size w w' := by
  have ht1 := fun o => ht.same (Same.below (Below.alloc0 w o) hS)
  by_cases h0 : x = 0
  · subst h0
    go_enter Tryz.func164, Tryz.ntmps164
    go_wp2_with fail
    exact bodyPost_ret (v := .tuple #[.int .i64 0, .agg #[.int .i64 2, .int .i64 0]]) (by simp [results, Tryz.results164, go_sem]) rfl ⟨rfl, Below.alloc0 _ _⟩
  · have h0' : (x == 0) = false := by simpa using h0
    have HT := hide ht1
    clear ht1
    by_cases hs : h.slot x < 0
    · go_enter Tryz.func164, Tryz.ntmps164
      go_wp2_with fail
      refine (slot_any S _ a bt h x hx (HT.out _)).mono ?_
      rintro e w' ⟨rfl, rfl⟩
      go_wp2_with fail
      exact bodyPost_ret (v := .tuple #[.int .i64 0, .agg #[.int .i64 3, .int .i64 x]]) (by simp [results, Tryz.results164, go_sem]) rfl ⟨by simp [H.of, h0, hs, whyV], Below.alloc0 _ _⟩
    · have hb := slot_bd h x hs
      obtain ⟨hp, h4, e1, hlt, hg1, hg2⟩ := hb
      obtain ⟨hcap, c00⟩ := (ht.tab (x % 4).toNat (by omega) (by omega)).head
      have c0 := fun o => (World.cell?_alloc_lt w o ⟨a, 6 + (x % 4).toNat, none⟩ (hS a ht.sa)).trans c00
      have c1 := fun o => ((HT.out o).tab (x % 4).toNat (by omega) (by omega)).gen (h.slot x).toNat (by omega)
      have c2 := fun o => ((HT.out o).tab (x % 4).toNat (by omega) (by omega)).ob (h.slot x).toNat (by omega)
      have c3 := fun o => ((HT.out o).tab (x % 4).toNat (by omega) (by omega)).frame (h.slot x).toNat (by omega)
      obtain ⟨s, hsd⟩ : ∃ s, (h.t (x % 4).toNat).getD (h.slot x).toNat Tm.sl0 = s := ⟨_, rfl⟩
      simp only [hsd] at c1 c2 c3
      have hof1 : (s.ob = 0 ∨ s.gen ≠ x / 256) → h.of x = (0, ⟨4, x⟩) := fun hc => by
        unfold H.of; rw [if_neg h0, if_neg hs, if_pos (by unfold H.sl; rw [hsd]; exact hc)]
      have hof2 : ¬ (s.ob = 0 ∨ s.gen ≠ x / 256) → h.of x = (s.ob, Tm.fine) := fun hc => by
        unfold H.of; rw [if_neg h0, if_neg hs, if_neg (by unfold H.sl; rw [hsd]; exact hc)]; unfold H.sl; rw [hsd]
      have hlen : (h.t (x % 4).toNat).length ≤ 16 := (ht.tab (x % 4).toNat (by omega) (by omega)).len
      have HE := hide e1
      have HO1 := hide hof1
      have HO2 := hide hof2
      clear e1 hof1 hof2 hsd
      have hsl0 : 0 ≤ h.slot x := by omega
      go_enter Tryz.func164, Tryz.ntmps164
      go_wp2_with fail
      refine (slot_any S _ a bt h x hx (HT.out _)).mono ?_
      rintro e w' ⟨rfl, rfl⟩
      generalize h.slot x = i at *
      by_cases ho : s.ob = 0
      · go_wp2_with fail
        exact bodyPost_ret (v := .tuple #[.int .i64 0, .agg #[.int .i64 4, .int .i64 x]]) (by simp [results, Tryz.results164, go_sem]) rfl ⟨by rw [HO1.out (Or.inl ho)]; simp [whyV], (Below.alloc0 _ _).trans ((Below.refl _ _).alloc (by simp) _)⟩
      · have ho' : (s.ob == 0) = false := by simpa using ho
        by_cases hg : s.gen = x / 256
        · have hg' : (s.gen != x / 256) = false := by simpa using hg
          have HG := hide hg
          clear hg
          go_wp2_with fail
          exact bodyPost_ret (v := .tuple #[.int .i64 s.ob, .agg #[.int .i64 0, .int .i64 0]]) (by simp [results, Tryz.results164, go_sem]) rfl ⟨by rw [HO2.out (by have := HG.out; omega)]; simp [Tm.fine, whyV], (Below.alloc0 _ _).trans ((Below.refl _ _).alloc (by simp) _)⟩
        · have hg' : (s.gen != x / 256) = true := by simpa using hg
          go_wp2_with fail
          exact bodyPost_ret (v := .tuple #[.int .i64 0, .agg #[.int .i64 4, .int .i64 x]]) (by simp [results, Tryz.results164, go_sem]) rfl ⟨by rw [HO1.out (Or.inr hg)]; simp [whyV], (Below.alloc0 _ _).trans ((Below.refl _ _).alloc (by simp) _)⟩
end Go.Proofs.YtcnmfljpmpgnjaaGreatDoor

namespace Go.Proofs.YtcnmfljpmpgnjaaGreatDoor
open Go.RowKit
open Tm (H Ob Sl Why)

structure ObjAt (S : Nat → Prop) (tag : Nat → Nat × Nat) (w : World) (b i kb vb : Nat) (o : Ob) : Prop where
  s : S b
  t : tag b = (3, i)
  kinds : ∃ v, w.cell? ⟨b, 0, none⟩ = some v ∧ IntsV S w v kb o.kinds
  kt : 0 < o.kinds.length → (tag kb).1 = 5
  vals : ∃ v, w.cell? ⟨b, 1, none⟩ = some v ∧ IntsV S w v vb o.vals
  vt : 0 < o.vals.length → tag vb = (4, i)
  eq : o.vals.length = o.kinds.length
  len : o.kinds.length ≤ 32
  pins : w.cell? ⟨b, 2, none⟩ = some (.int .i64 o.pins)
  pin : 0 ≤ o.pins ∧ o.pins ≤ 3
  name : w.cell? ⟨b, 3, none⟩ = some (.int .i64 o.name)
  gone : w.cell? ⟨b, 4, none⟩ = some (.bool o.gone)

theorem ObjAt.same {S : Nat → Prop} {tag : Nat → Nat × Nat} {w w' : World} {b i kb vb : Nat} {o : Ob} (h : ObjAt S tag w b i kb vb o) (hs : Same S w w') : ObjAt S tag w' b i kb vb o := by
  obtain ⟨kv, k1, k2⟩ := h.kinds
  obtain ⟨vv, v1, v2⟩ := h.vals
  exact ⟨h.s, h.t, ⟨kv, by rw [hs.cell h.s]; exact k1, k2.same hs⟩, h.kt, ⟨vv, by rw [hs.cell h.s]; exact v1, v2.same hs⟩, h.vt, h.eq, h.len, by rw [hs.cell h.s]; exact h.pins, h.pin, by rw [hs.cell h.s]; exact h.name, by rw [hs.cell h.s]; exact h.gone⟩

/-- The names that are to be told. -/
structure EndAt (S : Nat → Prop) (tag : Nat → Nat × Nat) (w : World) (a be ce : Nat) (pe : Option Addr) (l : List Int) : Prop where
  head : w.cell? ⟨a, 11, none⟩ = some (.slice pe l.length ce)
  cap : l.length ≤ ce
  capm : ce ≤ maxLen
  one : 0 < ce → pe = some ⟨be, 0, none⟩ ∧ S be ∧ tag be = (6, 0) ∧ ∃ cur : Array Value, w.heap[be]? = some (.cells cur 3 (0, 0)) ∧ cur.size = ce
  zero : ce = 0 → pe = none
  cells : ∀ i, i < l.length → w.cell? ⟨be, i, none⟩ = some (.int .i64 (l.getD i 0))

theorem EndAt.at {S : Nat → Prop} {tag : Nat → Nat × Nat} {w w' : World} {a be ce : Nat} {pe : Option Addr} {l : List Int} (h : EndAt S tag w a be ce pe l) (ha : w'.cell? ⟨a, 11, none⟩ = w.cell? ⟨a, 11, none⟩) (hb : 0 < ce → w'.heap[be]? = w.heap[be]?) : EndAt S tag w' a be ce pe l :=
  ⟨by rw [ha]; exact h.head, h.cap, h.capm, fun h0 => ⟨(h.one h0).1, (h.one h0).2.1, (h.one h0).2.2.1, by rw [hb h0]; exact (h.one h0).2.2.2⟩, h.zero, fun i hi => by rw [cell_of (hb (by have := h.cap; omega))]; exact h.cells i hi⟩
theorem EndAt.sub {S S' : Nat → Prop} {tag tag' : Nat → Nat × Nat} {w : World} {a be ce : Nat} {pe : Option Addr} {l : List Int} (h : EndAt S tag w a be ce pe l) (hs : S be → S' be) (ht : S be → tag be = (6, 0) → tag' be = (6, 0)) : EndAt S' tag' w a be ce pe l :=
  ⟨h.head, h.cap, h.capm, fun h0 => ⟨(h.one h0).1, hs (h.one h0).2.1, ht (h.one h0).2.1 (h.one h0).2.2.1, (h.one h0).2.2.2⟩, h.zero, h.cells⟩

/-- Where a heap of the document's lies. -/
structure Lay where
  bt : Nat → Nat
  bL : Nat
  cL : Nat
  pL : Option Addr
  ob : Nat → Nat
  kb : Nat → Nat
  vb : Nat → Nat
  be : Nat
  ce : Nat
  pe : Option Addr
  bc : Nat
  cb : Nat → Nat

structure Rep (S : Nat → Prop) (tag : Nat → Nat × Nat) (w : World) (a : Nat) (Y : Lay) (h : H) : Prop where
  lt : ∀ b, S b → b < w.heap.size
  soft : ∀ b i, S b → w.frozen? ⟨b, i, none⟩ = false
  tabs : Tabs S w a Y.bt h
  tagA : tag a = (0, 0)
  tagT : ∀ k, 0 < k → k < 4 → tag (Y.bt k) = (1, k)
  room : w.cell? ⟨a, 0, none⟩ = some (.int .i64 h.room)
  small : 1 ≤ h.room ∧ h.room ≤ 200
  frames : w.cell? ⟨a, 10, none⟩ = some (.int .i64 h.frames)
  fr : 1 ≤ h.frames ∧ h.frames ≤ 6
  list : w.cell? ⟨a, 5, none⟩ = some (.slice Y.pL h.l.length Y.cL)
  many : h.l.length < 4398046511104
  cap : h.l.length ≤ Y.cL
  listAt : 0 < Y.cL → Y.pL = some ⟨Y.bL, 0, none⟩ ∧ S Y.bL ∧ tag Y.bL = (2, 0)
  block : 0 < Y.cL → ∃ cur : Array Value, w.heap[Y.bL]? = some (.cells cur 206 (0, 0)) ∧ cur.size = Y.cL
  capm : Y.cL ≤ maxLen
  empty : Y.cL = 0 → Y.pL = none
  ptr : ∀ i, i < h.l.length → w.cell? ⟨Y.bL, i, none⟩ = some (.pointer (some ⟨Y.ob i, 0, none⟩))
  obj : ∀ i, i < h.l.length → ObjAt S tag w (Y.ob i) i (Y.kb i) (Y.vb i) (h.l.getD i Tm.ob0)
  ended : EndAt S tag w a Y.be Y.ce Y.pe h.ended
  classes : ∃ p c, w.cell? ⟨a, 12, none⟩ = some (.slice p h.classes.length c) ∧ (0 < h.classes.length → p = some ⟨Y.bc, 0, none⟩ ∧ S Y.bc ∧ tag Y.bc = (7, 0))
  few : h.classes.length ≤ 8
  refs : ∀ i q, i < h.l.length → q < (h.l.getD i Tm.ob0).kinds.length → (h.l.getD i Tm.ob0).kinds.getD q 0 = 2 → 0 ≤ (h.l.getD i Tm.ob0).vals.getD q 0 ∧ (h.l.getD i Tm.ob0).vals.getD q 0 ≤ (h.l.length : Int)
  clas : ∀ i, i < h.classes.length → (h.classes.getD i []).length ≤ 8 ∧ ((tag (Y.cb i)).1 = 5 ∨ h.classes.getD i [] = []) ∧ ∃ v, w.cell? ⟨Y.bc, i, none⟩ = some v ∧ IntsV S w v (Y.cb i) (h.classes.getD i [])
  wf : ∀ k i, i < (h.t k).length → 0 ≤ (h.sl k i).ob ∧ (h.sl k i).ob ≤ (h.l.length : Int) ∧ 0 ≤ (h.sl k i).gen ∧ (h.sl k i).gen ≤ 50

theorem Rep.same {S : Nat → Prop} {tag : Nat → Nat × Nat} {w w' : World} {a : Nat} {Y : Lay} {h : H} (r : Rep S tag w a Y h) (hs : Same S w w') (hz : w.heap.size ≤ w'.heap.size) : Rep S tag w' a Y h := by
  have sa := r.tabs.sa
  obtain ⟨cp, cc, c1, c2⟩ := r.classes
  refine ⟨fun b hb => Nat.lt_of_lt_of_le (r.lt b hb) hz, fun b i hb => by rw [hs.frozen hb]; exact r.soft b i hb, r.tabs.same hs, r.tagA, r.tagT, by rw [hs.cell sa]; exact r.room, r.small, by rw [hs.cell sa]; exact r.frames, r.fr,
    by rw [hs.cell sa]; exact r.list, r.many, r.cap, r.listAt, fun h0 => by rw [hs _ (r.listAt h0).2.1]; exact r.block h0, r.capm, r.empty, fun i hi => ?_, fun i hi => (r.obj i hi).same hs, r.ended.at (hs.cell sa) (fun h0 => hs _ (r.ended.one h0).2.1), ⟨cp, cc, by rw [hs.cell sa]; exact c1, c2⟩, r.few, r.refs, fun i hi => ?_, r.wf⟩
  · have := r.cap
    rw [hs.cell (r.listAt (by omega)).2.1]; exact r.ptr i hi
  · obtain ⟨h1, h2, v, h3, h4⟩ := r.clas i hi
    exact ⟨h1, h2, v, by rw [hs.cell (c2 (by omega)).2.1]; exact h3, h4.same hs⟩

theorem Rep.below {S : Nat → Prop} {tag : Nat → Nat × Nat} {w w' : World} {a : Nat} {Y : Lay} {h : H} (r : Rep S tag w a Y h) {B : Nat} (hb : Below B w w') (hB : w.heap.size ≤ B) : Rep S tag w' a Y h :=
  r.same (Same.below hb fun b h => Nat.lt_of_lt_of_le (r.lt b h) hB) hb.size

theorem Rep.alloc {S : Nat → Prop} {tag : Nat → Nat × Nat} {w : World} {a : Nat} {Y : Lay} {h : H} (r : Rep S tag w a Y h) (o : Obj) : Rep S tag (w.alloc o) a Y h :=
  r.below (Below.alloc0 w o) (Nat.le_refl _)

theorem of_bd {S : Nat → Prop} {tag : Nat → Nat × Nat} {w : World} {a : Nat} {Y : Lay} {h : H} (r : Rep S tag w a Y h) (x : Int) (hr : (h.of x).2.reason = 0) : 0 < (h.of x).1 ∧ (h.of x).1 ≤ (h.l.length : Int) := by
  unfold H.of at *
  split at hr
  · simp at hr
  · rename_i h1
    rw [if_neg h1]
    split at hr
    · simp at hr
    · rename_i h2
      rw [if_neg h2]
      split at hr
      · simp at hr
      · rename_i h3
        rw [if_neg h3]
        have := slot_bd h x h2
        have := r.wf (x % 4).toNat (h.slot x).toNat (by omega)
        simp only
        omega

/-- What is known of an object by its place. -/
theorem Rep.objJ {S : Nat → Prop} {tag : Nat → Nat × Nat} {w : World} {a : Nat} {Y : Lay} {h : H} (r : Rep S tag w a Y h) (j : Nat) (hj : j < h.l.length) :
    w.cell? ⟨a, 5, none⟩ = some (.slice (some ⟨Y.bL, 0, none⟩) h.l.length Y.cL) ∧ w.cell? ⟨Y.bL, j, none⟩ = some (.pointer (some ⟨Y.ob j, 0, none⟩)) ∧ ObjAt S tag w (Y.ob j) j (Y.kb j) (Y.vb j) (h.l.getD j Tm.ob0) := by
  have hc := r.cap
  have hl := r.list
  rw [(r.listAt (by omega)).1] at hl
  exact ⟨hl, r.ptr _ hj, r.obj _ hj⟩

end Go.Proofs.YtcnmfljpmpgnjaaGreatDoor
