import Derived.Test.YtcnmfljpmpgnjaaGreatDoorK26
import Derived.Test.YtcnmfljpmpgnjaaGreatDoorK20
namespace Go.Proofs.YtcnmfljpmpgnjaaGreatDoor
open Go.RowKit
open Tm (H Ob Sl Why)

/-- The lists that came out, as the caller has them. KB: the blocks that they, and the list of them, lie in. -/
structure BookAt (w : World) (wb : Nat) (KB : Nat → Prop) (n cK bK : Nat) (pK : Option Addr) : Prop where
  head : w.cell? ⟨wb, 1, none⟩ = some (.slice pK n cK)
  soft : w.frozen? ⟨wb, 1, none⟩ = false
  cap : n ≤ cK
  capm : cK ≤ maxLen
  one : 0 < cK → pK = some ⟨bK, 0, none⟩ ∧ KB bK ∧ ∃ cur : Array Value, w.heap[bK]? = some (.cells cur 24 (0, 0)) ∧ cur.size = cK
  lt : ∀ b, KB b → b < w.heap.size
  out : ¬ KB wb
  ent : ∀ i, i < n → ∃ p m c b, w.cell? ⟨bK, i, none⟩ = some (.slice p m c) ∧ m ≤ 4398046511107 ∧ (0 < m → p = some ⟨b, 0, none⟩ ∧ KB b ∧ b ≠ bK) ∧ ∀ j, j < m → w.cell? ⟨b, j, none⟩ = some (.int .i64 (-1000 - (i : Int) / 4))

theorem BookAt.at {w w' : World} {wb : Nat} {KB : Nat → Prop} {n cK bK : Nat} {pK : Option Addr} (h : BookAt w wb KB n cK bK pK) (hw : w'.cell? ⟨wb, 1, none⟩ = w.cell? ⟨wb, 1, none⟩) (hf : w'.frozen? ⟨wb, 1, none⟩ = w.frozen? ⟨wb, 1, none⟩) (hk : ∀ b, KB b → w'.heap[b]? = w.heap[b]?) (hz : w.heap.size ≤ w'.heap.size) : BookAt w' wb KB n cK bK pK := by
  refine ⟨by rw [hw]; exact h.head, by rw [hf]; exact h.soft, h.cap, h.capm, fun h0 => ⟨(h.one h0).1, (h.one h0).2.1, by rw [hk _ (h.one h0).2.1]; exact (h.one h0).2.2⟩, fun b hb => Nat.lt_of_lt_of_le (h.lt b hb) hz, h.out, fun i hi => ?_⟩
  obtain ⟨p, m, c, b, e1, e2, e3, e4⟩ := h.ent i hi
  have kb := (h.one (by have := h.cap; omega)).2.1
  exact ⟨p, m, c, b, by rw [cell_of (hk _ kb)]; exact e1, e2, e3, fun j hj => by rw [cell_of (hk _ (e3 (by omega)).2.1)]; exact e4 j hj⟩

theorem BookAt.kept {T : Nat → Prop} {w w' : World} {wb : Nat} {KB : Nat → Prop} {n cK bK : Nat} {pK : Option Addr} (h : BookAt w wb KB n cK bK pK) (hwb : wb < w.heap.size) (hk : Kept T w w') (h1 : ¬ T wb) (h2 : ∀ b, KB b → ¬ T b) : BookAt w' wb KB n cK bK pK :=
  h.at (cell_of (hk.block wb hwb h1)) (frozen_of (hk.block wb hwb h1)) (fun b hb => hk.block b (h.lt b hb) (h2 b hb)) hk.size

/-- One list more. -/
theorem BookAt.put {w w2 : World} {wb : Nat} {KB : Nat → Prop} {n cK bK : Nat} {pK : Option Addr} (h : BookAt w wb KB n cK bK pK) (hwb : wb < w.heap.size) {p : Option Addr} {m c b : Nat} (hm : m ≤ 4398046511107) (hp : 0 < m → p = some ⟨b, 0, none⟩ ∧ b < w.heap.size ∧ b ≠ wb ∧ (0 < cK → b ≠ bK)) (hc : ∀ j, j < m → w.cell? ⟨b, j, none⟩ = some (.int .i64 (-1000 - (n : Int) / 4)))
    {bK' cK' : Nat} (ap : ApdN 24 w w2 bK cK bK' cK' n [.slice p m c]) :
    BookAt (w2.setCell ⟨wb, 1, none⟩ (.slice (some ⟨bK', 0, none⟩) (n + 1) cK')) wb (fun x => KB x ∨ x = bK' ∨ (0 < m ∧ x = b)) (n + 1) cK' bK' (some ⟨bK', 0, none⟩) := by
  have nbk : bK' ≠ wb := fun e => by
    rcases ap.bl with ⟨q, q0⟩ | q
    · exact h.out (by rw [← e, q]; exact (h.one q0).2.1)
    · omega
  have hz := ap.size
  have hwo : w2.heap[wb]? = w.heap[wb]? := ap.old wb hwb (fun e => nbk e.symm)
  have oth : ∀ x, x ≠ wb → (w2.setCell ⟨wb, 1, none⟩ (.slice (some ⟨bK', 0, none⟩) (n + 1) cK')).heap[x]? = w2.heap[x]? := fun x hx => Below.heap_setCell _ _ _ _ (by simpa using hx)
  have hbK : ∀ x, KB x → x ≠ bK → x ≠ bK' := fun x hx hn e => by
    rcases ap.bl with ⟨q, _⟩ | q
    · exact hn (e.trans q)
    · have := h.lt x hx; omega
  have nb : 0 < m → b ≠ bK' := fun h0 e => by
    rcases ap.bl with ⟨q, q0⟩ | q
    · exact (hp h0).2.2.2 q0 (e.trans q)
    · have := (hp h0).2.1; omega
  refine ⟨World.cell?_setCell_same _ _ _ (by rw [cell_of hwo]; exact h.head), by rw [World.frozen?_setCell, frozen_of hwo]; exact h.soft, ap.cap, ap.capm, fun _ => ⟨rfl, Or.inr (Or.inl rfl), by rw [oth bK' nbk]; exact ap.block⟩, fun x hx => ?_, fun hx => ?_, fun i hi => ?_⟩
  · rw [World.size_setCell]
    rcases hx with q | rfl | ⟨q0, rfl⟩
    · have := h.lt x q; omega
    · exact ap.lt
    · have := (hp q0).2.1; omega
  · rcases hx with q | q | ⟨q0, q⟩
    · exact h.out q
    · exact nbk q.symm
    · exact (hp q0).2.2.1 q.symm
  · by_cases e : i = n
    · subst e
      refine ⟨p, m, c, b, by rw [cell_of (oth bK' nbk)]; exact ap.news 0 _ rfl, hm, fun h0 => ⟨(hp h0).1, Or.inr (Or.inr ⟨h0, rfl⟩), nb h0⟩, fun j hj => ?_⟩
      have h0 : 0 < m := by omega
      rw [cell_of (oth b (hp h0).2.2.1), cell_of (ap.old b (hp h0).2.1 (nb h0))]
      exact hc j hj
    · have hi2 : i < n := by omega
      obtain ⟨p', m', c', b', e1, e2, e3, e4⟩ := h.ent i hi2
      refine ⟨p', m', c', b', by rw [cell_of (oth bK' nbk), ap.keep i hi2]; exact e1, e2, fun h0 => ⟨(e3 h0).1, Or.inl (e3 h0).2.1, hbK _ (e3 h0).2.1 (e3 h0).2.2⟩, fun j hj => ?_⟩
      have h0 : 0 < m' := by omega
      rw [cell_of (oth b' (fun e => h.out (e ▸ (e3 h0).2.1))), cell_of (ap.old b' (h.lt _ (e3 h0).2.1) (hbK _ (e3 h0).2.1 (e3 h0).2.2))]
      exact e4 j hj

set_option maxRecDepth 100000 in
set_option maxHeartbeats 2000000 in
theorem looks_any {w : World} {wb : Nat} {KB : Nat → Prop} {n cK bK : Nat} {pK : Option Addr} (h : BookAt w wb KB n cK bK pK) (hn : n ≤ 17592186044416) :
    Calls Tryz.prog 48 #[.pointer (some ⟨wb, 1, none⟩)] w fun e w' => e = .returned (.bool true) ∧ w' = w := by
  have c1 := h.head
  have HB := hide h
  clear h
  go_enter Tryz.func48, Tryz.ntmps48
  go_wp2_with fail
  go_loop [3] (fun iv => ∃ i : Nat, i ≤ n ∧ iv = .int .i64 i) (fun iv => n - (intOf iv).toNat)
  case atStart => exact ⟨0, by omega, rfl⟩
  case round =>
    obtain ⟨i, hi, rfl⟩ := hrel
    by_cases hlt : i < n
    · have bi : (i : Int) < (n : Int) := by omega
      obtain ⟨p, m, c, b, e1, e2, e3, e4⟩ := HB.out.ent i hlt
      obtain ⟨rfl, _⟩ := HB.out.one (by have := HB.out.cap; omega)
      have HE4 := hide e4
      have HE3 : Hid (0 < m → p = some ⟨b, 0, none⟩) := fun h0 => (e3 h0).1
      clear e3 e4
      go_wp2_with fail
      go_loop [4] (fun jv => ∃ j : Nat, j ≤ m ∧ jv = .int .i64 j) (fun jv => m - (intOf jv).toNat)
      case atStart => exact ⟨0, by omega, rfl⟩
      case round =>
        obtain ⟨j, hj, rfl⟩ := hrel
        by_cases hjl : j < m
        · have bj : (j : Int) < (m : Int) := by omega
          have ep := HE3.out (by omega)
          subst ep
          have cj := HE4.out j hjl
          have hq : (i : Int).tdiv 4 = (i : Int) / 4 := by rw [Int.tdiv_eq_ediv_of_nonneg (by omega)]
          go_wp2_with fail
          exact ⟨⟨j + 1, by omega, by go_num⟩, by simp [intOf]; omega⟩
        · have bj : ¬ (j : Int) < (m : Int) := by omega
          go_wp2_with fail
          exact ⟨⟨i + 1, by omega, by go_num⟩, by simp [intOf]; omega⟩
    · have bi : ¬ (i : Int) < (n : Int) := by omega
      go_wp2_with fail
      go_ret
      exact ⟨rfl, rfl⟩
end Go.Proofs.YtcnmfljpmpgnjaaGreatDoor

namespace Go.Proofs.YtcnmfljpmpgnjaaGreatDoor
open Go.RowKit
open Tm (H Ob Sl Why)

/-- A list that came out, in memory. -/
structure AnsAt (w : World) (p : Option Addr) (n c b : Nat) : Prop where
  cap : n ≤ c
  capm : c ≤ maxLen
  one : 0 < c → p = some ⟨b, 0, none⟩ ∧ ∃ cur : Array Value, w.heap[b]? = some (.cells cur 3 (0, 0)) ∧ cur.size = c

theorem AnsAt.at {w w' : World} {p : Option Addr} {n c b : Nat} (h : AnsAt w p n c b) (hb : 0 < c → w'.heap[b]? = w.heap[b]?) : AnsAt w' p n c b :=
  ⟨h.cap, h.capm, fun h0 => ⟨(h.one h0).1, by rw [hb h0]; exact (h.one h0).2⟩⟩
theorem AnsAt.lt {w : World} {p : Option Addr} {n c b : Nat} (h : AnsAt w p n c b) (h0 : 0 < c) : b < w.heap.size := by
  obtain ⟨_, cur, q, _⟩ := h.one h0
  rcases Nat.lt_or_ge b w.heap.size with h | h
  · exact h
  · rw [Array.getElem?_eq_none h] at q; cases q
theorem AnsAt.soft {w : World} {p : Option Addr} {n c b : Nat} (h : AnsAt w p n c b) (h0 : 0 < c) (i : Nat) : w.frozen? ⟨b, i, none⟩ = false := by
  obtain ⟨_, cur, q, _⟩ := h.one h0
  simp [World.frozen?, q]
theorem AnsAt.apd {w w' : World} {p : Option Addr} {n c b : Nat} (h : AnsAt w p n c b) {b' c' : Nat} {vs : List Value} (ap : ApdN 3 w w' b c b' c' n vs) (hs : b' = b → 0 < c → c' = c) : AnsAt w' p n c b := by
  refine ⟨h.cap, h.capm, fun h0 => ⟨(h.one h0).1, ?_⟩⟩
  by_cases e : b = b'
  · subst e
    obtain ⟨cur, q1, q2⟩ := ap.block
    exact ⟨cur, q1, q2.trans (hs rfl h0)⟩
  · rw [ap.old b (h.lt h0) e]; exact (h.one h0).2

/-- Cells that all read one number. -/
def RowM (w : World) (b n : Nat) (mk : Int) : Prop := ∀ j, j < n → w.cell? ⟨b, j, none⟩ = some (.int .i64 mk)

theorem RowM.apd {w w' : World} {b c b' c' n k : Nat} {mk : Int} (h : RowM w b n mk) (ap : ApdN 3 w w' b c b' c' n (List.replicate k (.int .i64 mk))) : RowM w' b' (n + k) mk := fun j hj => by
  by_cases e : j < n
  · rw [ap.keep j e]; exact h j e
  · have := ap.news (j - n) (.int .i64 mk) (by rw [List.getElem?_replicate, if_pos (by omega)])
    rw [show n + (j - n) = j from by omega] at this; exact this
theorem RowM.other {w w' : World} {b c b' c' n k b2 n2 : Nat} {mk : Int} (h : RowM w b n mk) (h2 : RowM w b2 n2 mk) (hl : 0 < n2 → b2 < w.heap.size) (hb : b2 = b → n2 ≤ n + k) (ap : ApdN 3 w w' b c b' c' n (List.replicate k (.int .i64 mk))) : RowM w' b2 n2 mk := fun j hj => by
  by_cases e : b2 = b'
  · rcases ap.bl with ⟨q, _⟩ | q
    · rw [e]; exact h.apd ap j (by have := hb (e.trans q); omega)
    · have := hl (by omega); omega
  · rw [cell_of (ap.old b2 (hl (by omega)) e)]; exact h2 j hj
theorem RowM.at {w w' : World} {b n : Nat} {mk : Int} (h : RowM w b n mk) (hb : 0 < n → w'.heap[b]? = w.heap[b]?) : RowM w' b n mk := fun j hj => by rw [cell_of (hb (by omega))]; exact h j hj

theorem block_setCell {w : World} {b i : Nat} {cur : Array Value} {t : TypeId} {fr : Nat × Nat} (h : w.heap[b]? = some (.cells cur t fr)) (v : Value) : ∃ cur' : Array Value, (w.setCell ⟨b, i, none⟩ v).heap[b]? = some (.cells cur' t fr) ∧ cur'.size = cur.size := by
  simp only [World.setCell, Array.getElem?_modify, h]
  simp
theorem AnsAt.set {w : World} {p : Option Addr} {n c b : Nat} (h : AnsAt w p n c b) (i : Nat) (v : Value) : AnsAt (w.setCell ⟨b, i, none⟩ v) p n c b :=
  ⟨h.cap, h.capm, fun h0 => ⟨(h.one h0).1, by
    obtain ⟨cur, q1, q2⟩ := (h.one h0).2
    obtain ⟨cur', q3, q4⟩ := block_setCell (i := i) q1 v
    exact ⟨cur', q3, q4.trans q2⟩⟩⟩

theorem news_alloc (w : World) (vs : List Value) (t : TypeId) : ∀ j u, vs[j]? = some u → (w.alloc (.cells vs.toArray t)).cell? ((⟨w.heap.size, 0, none⟩ : Addr).add j) = some u := fun j u hj => by
  rw [Addr.add_lit, World.cell?_alloc_new]; simpa using hj

theorem news_alloc' (w : World) (vs : List Value) (t : TypeId) (B : Nat) (hB : w.heap.size = B) : ∀ j u, vs[j]? = some u → (w.alloc (.cells vs.toArray t)).cell? ((⟨B, 0, none⟩ : Addr).add j) = some u := by
  subst hB; exact news_alloc w vs t

/-- What is so between the appends. -/
structure Kst (w : World) (wb : Nat) (KB : Nat → Prop) (n cK bK : Nat) (pK : Option Addr) (p : Option Addr) (ln c b : Nat) (mk : Int) (W : World) : Prop where
  book : BookAt W wb KB n cK bK pK
  kept : Kept (fun x => 0 < c ∧ x = b) w W
  ans : AnsAt W p ln c b
  row : RowM W b ln mk
/-- One of the lists. -/
structure Rw (w : World) (c b b1 n1 : Nat) (mk : Int) (W : World) : Prop where
  row : RowM W b1 n1 mk
  lt : b1 < W.heap.size
  loc : (b1 = b ∧ 0 < c) ∨ w.heap.size ≤ b1

section
variable {w W W' : World} {wb : Nat} {KB : Nat → Prop} {n cK bK : Nat} {pK p : Option Addr} {ln c b b1 n1 k k1 b' c' : Nat} {mk : Int}

theorem Kst.alloc (h : Kst w wb KB n cK bK pK p ln c b mk W) (hwb : wb < w.heap.size) (o : Obj) : Kst w wb KB n cK bK pK p ln c b mk (W.alloc o) := by
  have hz := h.kept.size
  exact ⟨h.book.kept (T := fun _ => False) (by omega) (Kept.of_below (Below.alloc0 W o)) id (fun _ _ => id), h.kept.alloc o, h.ans.at (fun h0 => Below.heap_alloc _ _ _ (h.ans.lt h0)), h.row.at (fun h0 => Below.heap_alloc _ _ _ (h.ans.lt (by have := h.ans.cap; omega)))⟩
theorem Rw.alloc (h : Rw w c b b1 n1 mk W) (o : Obj) : Rw w c b b1 n1 mk (W.alloc o) := ⟨h.row.at (fun _ => Below.heap_alloc _ _ _ h.lt), by have := h.lt; simp; omega, h.loc⟩

theorem Kst.apd (h : Kst w wb KB n cK bK pK p ln c b mk W) (hwb : wb < w.heap.size) (hb : 0 < c → ¬ KB b ∧ b ≠ wb) (ap : ApdN 3 W W' b c b' c' ln (List.replicate k (.int .i64 mk))) (hs : b' = b → 0 < c → c' = c) : Kst w wb KB n cK bK pK p ln c b mk W' ∧ Rw w c b b' (ln + k) mk W' := by
  have hz := h.kept.size
  have hz2 := ap.size
  have hkk : Kept (fun x => 0 < c ∧ x = b) W W' := ⟨ap.os, ap.tape, ap.output, ap.size, fun x hx hn => ap.old x hx (fun e => by
    rcases ap.bl with ⟨q, q0⟩ | q
    · exact hn ⟨q0, e.trans q⟩
    · omega)⟩
  refine ⟨⟨h.book.kept (by omega) hkk (fun q => (hb q.1).2 q.2.symm) (fun x hx q => (hb q.1).1 (q.2 ▸ hx)), h.kept.trans hkk, h.ans.apd ap hs, ?_⟩, h.row.apd ap, ap.lt, ?_⟩
  · exact h.row.other h.row (fun h0 => h.ans.lt (by have := h.ans.cap; omega)) (fun _ => by omega) ap
  · rcases ap.bl with q | q
    · exact Or.inl q
    · exact Or.inr (by omega)
theorem Rw.apd (h : Kst w wb KB n cK bK pK p ln c b mk W) (r : Rw w c b b1 (ln + k1) mk W) (hk : k1 ≤ k) (ap : ApdN 3 W W' b c b' c' ln (List.replicate k (.int .i64 mk))) : Rw w c b b1 (ln + k1) mk W' :=
  ⟨h.row.other r.row (fun _ => r.lt) (fun _ => by omega) ap, Nat.lt_of_lt_of_le r.lt ap.size, r.loc⟩

/-- What is so between the lists that are put down. -/
structure Kpt (w : World) (wb : Nat) (KB : Nat → Prop) (c b : Nat) (W3 : World) (n' cK' bK' : Nat) (pK' : Option Addr) (KB' : Nat → Prop) (W : World) : Prop where
  book : BookAt W wb KB' n' cK' bK' pK'
  kept : Kept (fun x => x = wb ∨ KB x) W3 W
  new : ∀ x, KB' x → KB x ∨ (0 < c ∧ x = b) ∨ w.heap.size ≤ x
  loc : 0 < cK' → KB bK' ∨ W3.heap.size ≤ bK'
  rest : (∀ i, i ≠ 1 → W.cell? ⟨wb, i, none⟩ = W3.cell? ⟨wb, i, none⟩) ∧ ∀ i, W.frozen? ⟨wb, i, none⟩ = W3.frozen? ⟨wb, i, none⟩

theorem Kpt.put {W3 : World} {n' cK' bK' bK2 cK2 : Nat} {pK' : Option Addr} {KB' : Nat → Prop} (h : Kpt w wb KB c b W3 n' cK' bK' pK' KB' W) (h3 : Kst w wb KB n cK bK pK p ln c b mk W3) (hwb : wb < w.heap.size) (hb : 0 < c → ¬ KB b ∧ b ≠ wb) (hKB : ∀ x, KB x → x < w.heap.size)
    {q : Option Addr} {m cq b2 : Nat} (hm : m ≤ 4398046511107) (hq : 0 < m → q = some ⟨b2, 0, none⟩ ∧ Rw w c b b2 m mk W3) (hmk : mk = -1000 - (n' : Int) / 4) (o : Obj) (ap : ApdN 24 (W.alloc o) W' bK' cK' bK2 cK2 n' [.slice q m cq]) :
    Kpt w wb KB c b W3 (n' + 1) cK2 bK2 (some ⟨bK2, 0, none⟩) (fun x => KB' x ∨ x = bK2 ∨ (0 < m ∧ x = b2)) (W'.setCell ⟨wb, 1, none⟩ (.slice (some ⟨bK2, 0, none⟩) (n' + 1) cK2)) := by
  have hz3 := h3.kept.size
  have hz := h.kept.size
  have hz2 := ap.size
  simp at hz2
  have hnot : 0 < m → b2 ≠ wb ∧ ¬ KB b2 ∧ b2 < W3.heap.size := fun h0 => by
    have r := (hq h0).2
    refine ⟨fun e => ?_, fun e => ?_, r.lt⟩
    · rcases r.loc with ⟨q1, q0⟩ | q1
      · exact (hb q0).2 (q1.symm.trans e)
      · omega
    · rcases r.loc with ⟨q1, q0⟩ | q1
      · exact (hb q0).1 (q1 ▸ e)
      · have := hKB _ e; omega
  have bk : BookAt (W.alloc o) wb KB' n' cK' bK' pK' := h.book.kept (T := fun _ => False) (by omega) (Kept.of_below (Below.alloc0 W o)) id (fun _ _ => id)
  refine ⟨bk.put (by simp; omega) hm (fun h0 => ⟨(hq h0).1, by have := (hnot h0).2.2; simp; omega, (hnot h0).1, fun q0 e => ?_⟩) (fun j hj => ?_) ap, ?_, fun x hx => ?_, fun _ => ?_, ?_⟩
  · rcases h.loc q0 with q1 | q1
    · exact (hnot h0).2.1 (e ▸ q1)
    · have := (hnot h0).2.2; omega
  · have h0 : 0 < m := by omega
    have hlt := (hnot h0).2.2
    rw [World.cell?_alloc_lt _ _ _ (by show b2 < W.heap.size; omega), cell_of (h.kept.block b2 hlt (by rintro (q1 | q1); exact (hnot h0).1 q1; exact (hnot h0).2.1 q1)), ← hmk]
    exact (hq h0).2.row j hj
  · have hK2 : Kept (fun x => x = wb ∨ KB x) W3 W' := ⟨ap.os.trans h.kept.os, ap.tape.trans h.kept.tape, ap.output.trans h.kept.output, by omega, fun x hx hn => by
      rw [ap.old x (by simp; omega) (fun e => by
        rcases ap.bl with ⟨q1, q0⟩ | q1
        · rcases h.loc q0 with q2 | q2
          · exact hn (Or.inr (by rw [e, q1]; exact q2))
          · omega
        · simp at q1; omega), Below.heap_alloc _ _ _ (by omega)]
      exact h.kept.block x hx hn⟩
    exact hK2.setCell (Or.inl (Or.inl rfl)) _
  · rcases hx with q1 | q1 | ⟨h0, q1⟩
    · exact h.new x q1
    · rcases ap.bl with ⟨q2, q0⟩ | q2
      · exact h.new x (by rw [q1, q2]; exact (h.book.one q0).2.1)
      · simp at q2; exact Or.inr (Or.inr (by omega))
    · rcases (hq h0).2.loc with ⟨q2, q0⟩ | q2
      · exact Or.inr (Or.inl ⟨q0, q1.trans q2⟩)
      · exact Or.inr (Or.inr (by omega))
  · rcases ap.bl with ⟨q2, q0⟩ | q2
    · rw [q2]; exact h.loc q0
    · simp at q2; exact Or.inr (by omega)
  · have hw : W'.heap[wb]? = W.heap[wb]? := by
      rw [ap.old wb (by simp; omega) (fun e => by
        rcases ap.bl with ⟨q2, q0⟩ | q2
        · exact h.book.out (by rw [e, q2]; exact (h.book.one q0).2.1)
        · simp at q2; omega), Below.heap_alloc _ _ _ (by omega)]
    exact ⟨fun i hi => by rw [World.cell?_setCell_other _ _ _ _ (fun e => hi (congrArg Addr.off e).symm), cell_of hw]; exact h.rest.1 i hi, fun i => by rw [World.frozen?_setCell, frozen_of hw]; exact h.rest.2 i⟩
end

/-- What 'keeps' leaves. -/
def KeepsPost (w : World) (wb : Nat) (KB : Nat → Prop) (n c b : Nat) (e : Ending) (w' : World) : Prop :=
  e = .returned (.tuple #[]) ∧ ∃ KB' cK' bK' pK', BookAt w' wb KB' (n + 4) cK' bK' pK' ∧ Kept (fun x => x = wb ∨ KB x ∨ (0 < c ∧ x = b)) w w' ∧ (∀ x, KB' x → KB x ∨ (0 < c ∧ x = b) ∨ w.heap.size ≤ x) ∧ (∀ i, i ≠ 1 → w'.cell? ⟨wb, i, none⟩ = w.cell? ⟨wb, i, none⟩) ∧ ∀ i, w'.frozen? ⟨wb, i, none⟩ = w.frozen? ⟨wb, i, none⟩

set_option maxRecDepth 100000 in
set_option maxHeartbeats 4000000 in
theorem keeps_any {w : World} {wb : Nat} {KB : Nat → Prop} {n cK bK : Nat} {pK : Option Addr} (h : BookAt w wb KB n cK bK pK) (h4 : n % 4 = 0) (hn : (n + 4) * 24 ≤ 140737488355328) (hwb : wb < w.heap.size) {p : Option Addr} {ln c b : Nat} (A : AnsAt w p ln c b) (hln : ln ≤ 4398046511104) (hb : 0 < c → ¬ KB b ∧ b ≠ wb) :
    Calls Tryz.prog 139 #[.pointer (some ⟨wb, 1, none⟩), .slice p ln c] w (KeepsPost w wb KB n c b) := by
  have c1 := h.head
  have HB := hide h
  have HA := hide A
  have HN1 : Hid ((n + 1) * 24 ≤ 140737488355328 ∧ (n + 1 + 1) * 24 ≤ 140737488355328 ∧ (n + 1 + 1 + 1) * 24 ≤ 140737488355328 ∧ (n + 1 + 1 + 1 + 1) * 24 ≤ 140737488355328) := by show _ ∧ _ ∧ _ ∧ _; omega
  obtain ⟨iI, hiI, hp0, hp1, hp2⟩ := info_parts info3
  have HiP := hide hiI
  have HP0 := hide hp0
  have HP1 := hide hp1
  have HP2 := hide hp2
  clear hiI hp0 hp1 hp2 h A
  go_enter Tryz.func139, Tryz.ntmps139
  go_wp2_with fail
  obtain ⟨mk, emk⟩ : ∃ mk : Int, mk = -1000 - (n : Int) / 4 := ⟨_, rfl⟩
  have HMk := hide emk
  have hmb : -9000000000000 ≤ mk ∧ mk ≤ -1000 := by omega
  rw [← emk]
  clear emk
  go_loopw [5] (fun iv w' => ∃ i : Nat, i ≤ ln ∧ iv = .int .i64 i ∧ Kept (fun x => 0 < c ∧ x = b) w w' ∧ AnsAt w' p ln c b ∧ RowM w' b i mk ∧ w'.heap.size = w.heap.size) (fun iv _ => ln - (intOf iv).toNat)
  case atStart => exact ⟨0, by omega, rfl, Kept.refl _ _, HA.out, (fun j hj => absurd hj (Nat.not_lt_zero j)), rfl⟩
  case round =>
    obtain ⟨i, hi, rfl, kk, aa, rw', hz⟩ := hrel
    have HK := hide kk
    have HAA := hide aa
    have HRw := hide rw'
    by_cases hlt : i < ln
    · have bi : (i : Int) < (ln : Int) := by omega
      have hc0 : 0 < c := by have := aa.cap; omega
      obtain ⟨rfl, cur, q1, q2⟩ := aa.one hc0
      have ci : ∃ v, wr.cell? ⟨b, i, none⟩ = some v := ⟨cur[i]'(by have := aa.cap; omega), by simp [World.cell?, q1, Array.getElem?_eq_getElem (show i < cur.size by have := aa.cap; omega)]⟩
      obtain ⟨v, cv⟩ := ci
      have fb := aa.soft hc0 i
      clear kk aa rw' q1 q2
      go_wp2_with fail
      refine ⟨⟨i + 1, by omega, by go_num, HK.out.setCell (Or.inl ⟨hc0, rfl⟩) _, HAA.out.set i _, fun j hj => ?_, by rw [World.size_setCell]; exact hz⟩, by simp [intOf]; omega⟩
      by_cases e : j = i
      · subst e; exact World.cell?_setCell_same _ _ _ cv
      · rw [World.cell?_setCell_other _ _ _ _ (fun q => e (congrArg Addr.off q).symm)]; exact HRw.out j (by omega)
    · have bi : ¬ (i : Int) < (ln : Int) := by omega
      obtain rfl : i = ln := by omega
      have hwz := kk.size
      have st0 : Kst w wb KB n cK bK pK p i c b mk wr := ⟨HB.out.kept hwb kk (fun q => (hb q.1).2 q.2.symm) (fun x hx q => (hb q.1).1 (q.2 ▸ hx)), kk, aa, rw'⟩
      have HS0 := hide st0
      have HKB := hide HB.out.lt
      clear st0 kk aa rw' HK HAA HRw HA c1 hz
      go_wp2_with (at_builtin; refine wpList_putN _ rfl (.tmp 26) (.tmp 28) 24 rfl 3 iI (.int .i64 0) 8 Tryz.underlying24 HiP.out HP0.out HP1.out HP2.out rfl p i c b rfl ?LA ?capA ?cmA ⟨wr.heap.size, 0, none⟩ 1 1 [.int .i64 mk] rfl (by decide) rfl (news_alloc _ _ _) ?oneA ?b1A ?b2A ?KA)
      case LA => exact fun h0 => (HS0.out.alloc hwb _).ans.one h0
      case capA => exact HS0.out.ans.cap
      case cmA => exact HS0.out.ans.capm
      case oneA => simp [Value.oneCell']
      case b1A => unfold maxLen; omega
      case b2A => omega
      case KA =>
        intro w1 b1 c1 ap1 hs1
        obtain ⟨s1, r1⟩ := (HS0.out.alloc hwb _).apd (k := 1) hwb hb ap1 hs1
        have HS1 := hide s1
        have HR1 := hide r1
        clear s1 r1 ap1 hs1 HS0
        go_wp2_with (at_builtin; refine wpList_putN _ rfl (.tmp 30) (.tmp 33) 24 rfl 3 iI (.int .i64 0) 8 Tryz.underlying24 HiP.out HP0.out HP1.out HP2.out rfl p i c b rfl ?LB ?capB ?cmB ⟨w1.heap.size, 0, none⟩ 2 2 [.int .i64 mk, .int .i64 mk] rfl (by decide) rfl (news_alloc _ _ _) ?oneB ?b1B ?b2B ?KB)
        case LB => exact fun h0 => (HS1.out.alloc hwb _).ans.one h0
        case capB => exact HS1.out.ans.cap
        case cmB => exact HS1.out.ans.capm
        case oneB => simp [Value.oneCell']
        case b1B => unfold maxLen; omega
        case b2B => omega
        case KB =>
          intro w2 b2 c2 ap2 hs2
          have ra := HR1.out.alloc (.cells #[.int .i64 mk, .int .i64 mk] 3)
          obtain ⟨s2, r2⟩ := (HS1.out.alloc hwb _).apd (k := 2) hwb hb ap2 hs2
          have r12 := Rw.apd (HS1.out.alloc hwb (.cells #[.int .i64 mk, .int .i64 mk] 3)) ra (k := 2) (by omega) ap2
          have HS2 := hide s2
          have HR2 := hide r2
          have HR12 := hide r12
          clear s2 r2 r12 ra ap2 hs2 HS1 HR1
          go_wp2_with (at_builtin; refine wpList_putN _ rfl (.tmp 35) (.tmp 39) 24 rfl 3 iI (.int .i64 0) 8 Tryz.underlying24 HiP.out HP0.out HP1.out HP2.out rfl p i c b rfl ?LC ?capC ?cmC ⟨w2.heap.size, 0, none⟩ 3 3 [.int .i64 mk, .int .i64 mk, .int .i64 mk] rfl (by decide) rfl (news_alloc _ _ _) ?oneC ?b1C ?b2C ?KC)
          case LC => exact fun h0 => (HS2.out.alloc hwb _).ans.one h0
          case capC => exact HS2.out.ans.cap
          case cmC => exact HS2.out.ans.capm
          case oneC => simp [Value.oneCell']
          case b1C => unfold maxLen; omega
          case b2C => omega
          case KC =>
            intro w3 b3 c3 ap3 hs3
            have ra := HR12.out.alloc (.cells #[.int .i64 mk, .int .i64 mk, .int .i64 mk] 3)
            have rb := HR2.out.alloc (.cells #[.int .i64 mk, .int .i64 mk, .int .i64 mk] 3)
            have sa := HS2.out.alloc hwb (.cells #[.int .i64 mk, .int .i64 mk, .int .i64 mk] 3)
            obtain ⟨s3, r3⟩ := sa.apd (k := 3) hwb hb ap3 hs3
            have r13 := Rw.apd sa ra (k := 3) (by omega) ap3
            have r23 := Rw.apd sa rb (k := 3) (by omega) ap3
            have HS3 := hide s3
            have HR3 := hide r3
            have HR13 := hide r13
            have HR23 := hide r23
            have cw := s3.book.head
            have fw := s3.book.soft
            have hz3 := s3.kept.size
            clear r3 r13 r23 ra rb sa ap3 hs3 HS2 HR2 HR12 s3
            have k0 : Kpt w wb KB c b w3 n cK bK pK KB w3 := ⟨HS3.out.book, Kept.refl _ _, fun x hx => Or.inl hx, fun h0 => Or.inl (HS3.out.book.one h0).2.1, fun _ _ => rfl, fun _ => rfl⟩
            have HK0 := hide k0
            clear k0
            obtain ⟨iS, hiS, hq0, hq1, hq2⟩ := info_parts infoI
            have HiS := hide hiS
            have HQ0 := hide hq0
            have HQ1 := hide hq1
            have HQ2 := hide hq2
            clear hiS hq0 hq1 hq2
            have hwb3 : wb < w3.heap.size := by omega
            go_wp2_with (at_builtin; refine wpList_putN _ rfl (.tmp 45) (.tmp 47) 61 rfl 24 iS (.slice none 0 0) 24 Tryz.underlying61 HiS.out HQ0.out HQ1.out HQ2.out rfl pK n cK bK rfl ?LD ?capD ?cmD ⟨w3.heap.size, 0, none⟩ 1 1 [.slice p i c] rfl (by decide) rfl (news_alloc _ _ _) ?oneD ?b1D ?b2D ?KD)
            case LD => exact fun h0 => ⟨(HK0.out.book.one h0).1, by rw [Below.heap_alloc _ _ _ (HK0.out.book.lt _ (HK0.out.book.one h0).2.1)]; exact (HK0.out.book.one h0).2.2⟩
            case capD => exact HK0.out.book.cap
            case cmD => exact HK0.out.book.capm
            case oneD => simp [Value.oneCell']
            case b1D => unfold maxLen; omega
            case b2D => exact HN1.out.1
            case KD =>
              intro w4 b4 c4 ap4 hs4
              have q4 := HK0.out.put HS3.out hwb hb HKB.out (m := i) (b2 := b) (by omega) (fun h0 => ⟨(HS3.out.ans.one (by have := HS3.out.ans.cap; omega)).1, HS3.out.row, HS3.out.ans.lt (by have := HS3.out.ans.cap; omega), Or.inl ⟨rfl, by have := HS3.out.ans.cap; omega⟩⟩) HMk.out _ ap4
              have hwb4 := ap4.old wb (by simp; omega) (fun e => by
                rcases ap4.bl with ⟨q, q0⟩ | q
                · exact HS3.out.book.out (by rw [e, q]; exact (HS3.out.book.one q0).2.1)
                · simp at q; omega)
              rw [Below.heap_alloc _ _ _ hwb3] at hwb4
              have cw4 : w4.cell? ⟨wb, 1, none⟩ = some (.slice pK n cK) := by rw [cell_of hwb4]; exact cw
              have fw4 : w4.frozen? ⟨wb, 1, none⟩ = false := by rw [frozen_of hwb4]; exact fw
              have HQ4 := hide q4
              have hz4 := ap4.size
              simp at hz4
              clear q4 ap4 hs4 hwb4 HK0
              have HCE : Hid (∀ j u, [Value.slice (some ⟨b1, 0, none⟩) (i + 1) c1][j]? = some u → ((w4.setCell ⟨wb, 1, none⟩ (.slice (some ⟨b4, 0, none⟩) (n + 1) c4)).alloc (.cells #[.slice (some ⟨b1, 0, none⟩) (i + 1) c1] 24)).cell? ((⟨w4.heap.size, 0, none⟩ : Addr).add j) = some u) := news_alloc' (w4.setCell ⟨wb, 1, none⟩ (.slice (some ⟨b4, 0, none⟩) (n + 1) c4)) [.slice (some ⟨b1, 0, none⟩) (i + 1) c1] 24 _ (by simp)
              have HLE : Hid (0 < c4 → some (⟨b4, 0, none⟩ : Addr) = some ⟨b4, 0, none⟩ ∧ ∃ cur : Array Value, ((w4.setCell ⟨wb, 1, none⟩ (.slice (some ⟨b4, 0, none⟩) (n + 1) c4)).alloc (.cells #[.slice (some ⟨b1, 0, none⟩) (i + 1) c1] 24)).heap[b4]? = some (.cells cur 24 (0, 0)) ∧ cur.size = c4) := fun h0 => ⟨rfl, by rw [Below.heap_alloc _ _ _ (HQ4.out.book.lt _ (HQ4.out.book.one h0).2.1)]; exact (HQ4.out.book.one h0).2.2⟩
              go_wp2_with (at_builtin; refine wpList_putN _ rfl (.tmp 55) (.tmp 57) 61 rfl 24 iS (.slice none 0 0) 24 Tryz.underlying61 HiS.out HQ0.out HQ1.out HQ2.out rfl (some ⟨b4, 0, none⟩) (n + 1) c4 b4 rfl HLE.out ?capE ?cmE ⟨w4.heap.size, 0, none⟩ 1 1 [.slice (some ⟨b1, 0, none⟩) (i + 1) c1] rfl (by decide) rfl HCE.out ?oneE ?b1E ?b2E ?KE)
              case capE => exact HQ4.out.book.cap
              case cmE => exact HQ4.out.book.capm
              case oneE => simp [Value.oneCell']
              case b1E => unfold maxLen; omega
              case b2E => exact HN1.out.2.1
              case KE =>
                intro w5 b5 c5 ap5 hs5
                have q5 := HQ4.out.put HS3.out hwb hb HKB.out (m := i + 1) (b2 := b1) (by omega) (fun h0 => ⟨rfl, HR13.out⟩) (by have := HMk.out; omega) _ ap5
                have hwb5 := ap5.old wb (by simp; omega) (fun e => by
                  rcases ap5.bl with ⟨q, q0⟩ | q
                  · exact HQ4.out.book.out (by rw [e, q]; exact (HQ4.out.book.one q0).2.1)
                  · simp at q; omega)
                rw [Below.heap_alloc _ _ _ (by simp; omega)] at hwb5
                have cw5 : w5.cell? ⟨wb, 1, none⟩ = some (.slice (some ⟨b4, 0, none⟩) (n + 1) c4) := by rw [cell_of hwb5]; exact HQ4.out.book.head
                have fw5 : w5.frozen? ⟨wb, 1, none⟩ = false := by rw [frozen_of hwb5]; exact HQ4.out.book.soft
                have HQ5 := hide q5
                have hz5 := ap5.size
                simp at hz5
                clear q5 ap5 hs5 hwb5 HQ4
                have HCF : Hid (∀ j u, [Value.slice (some ⟨b2, 0, none⟩) (i + 2) c2][j]? = some u → ((w5.setCell ⟨wb, 1, none⟩ (.slice (some ⟨b5, 0, none⟩) (n + 1 + 1) c5)).alloc (.cells #[.slice (some ⟨b2, 0, none⟩) (i + 2) c2] 24)).cell? ((⟨w5.heap.size, 0, none⟩ : Addr).add j) = some u) := news_alloc' (w5.setCell ⟨wb, 1, none⟩ (.slice (some ⟨b5, 0, none⟩) (n + 1 + 1) c5)) [.slice (some ⟨b2, 0, none⟩) (i + 2) c2] 24 _ (by simp)
                have HLF : Hid (0 < c5 → some (⟨b5, 0, none⟩ : Addr) = some ⟨b5, 0, none⟩ ∧ ∃ cur : Array Value, ((w5.setCell ⟨wb, 1, none⟩ (.slice (some ⟨b5, 0, none⟩) (n + 1 + 1) c5)).alloc (.cells #[.slice (some ⟨b2, 0, none⟩) (i + 2) c2] 24)).heap[b5]? = some (.cells cur 24 (0, 0)) ∧ cur.size = c5) := fun h0 => ⟨rfl, by rw [Below.heap_alloc _ _ _ (HQ5.out.book.lt _ (HQ5.out.book.one h0).2.1)]; exact (HQ5.out.book.one h0).2.2⟩
                go_wp2_with (at_builtin; refine wpList_putN _ rfl (.tmp 65) (.tmp 67) 61 rfl 24 iS (.slice none 0 0) 24 Tryz.underlying61 HiS.out HQ0.out HQ1.out HQ2.out rfl (some ⟨b5, 0, none⟩) (n + 1 + 1) c5 b5 rfl HLF.out ?capF ?cmF ⟨w5.heap.size, 0, none⟩ 1 1 [.slice (some ⟨b2, 0, none⟩) (i + 2) c2] rfl (by decide) rfl HCF.out ?oneF ?b1F ?b2F ?KF)
                case capF => exact HQ5.out.book.cap
                case cmF => exact HQ5.out.book.capm
                case oneF => simp [Value.oneCell']
                case b1F => unfold maxLen; omega
                case b2F => exact HN1.out.2.2.1
                case KF =>
                  intro w6 b6 c6 ap6 hs6
                  have q6 := HQ5.out.put HS3.out hwb hb HKB.out (m := i + 2) (b2 := b2) (by omega) (fun h0 => ⟨rfl, HR23.out⟩) (by have := HMk.out; omega) _ ap6
                  have hwb6 := ap6.old wb (by simp; omega) (fun e => by
                    rcases ap6.bl with ⟨q, q0⟩ | q
                    · exact HQ5.out.book.out (by rw [e, q]; exact (HQ5.out.book.one q0).2.1)
                    · simp at q; omega)
                  rw [Below.heap_alloc _ _ _ (by simp; omega)] at hwb6
                  have cw6 : w6.cell? ⟨wb, 1, none⟩ = some (.slice (some ⟨b5, 0, none⟩) (n + 1 + 1) c5) := by rw [cell_of hwb6]; exact HQ5.out.book.head
                  have fw6 : w6.frozen? ⟨wb, 1, none⟩ = false := by rw [frozen_of hwb6]; exact HQ5.out.book.soft
                  have HQ6 := hide q6
                  have hz6 := ap6.size
                  simp at hz6
                  clear q6 ap6 hs6 hwb6 HQ5
                  have HCG : Hid (∀ j u, [Value.slice (some ⟨b3, 0, none⟩) (i + 3) c3][j]? = some u → ((w6.setCell ⟨wb, 1, none⟩ (.slice (some ⟨b6, 0, none⟩) (n + 1 + 1 + 1) c6)).alloc (.cells #[.slice (some ⟨b3, 0, none⟩) (i + 3) c3] 24)).cell? ((⟨w6.heap.size, 0, none⟩ : Addr).add j) = some u) := news_alloc' (w6.setCell ⟨wb, 1, none⟩ (.slice (some ⟨b6, 0, none⟩) (n + 1 + 1 + 1) c6)) [.slice (some ⟨b3, 0, none⟩) (i + 3) c3] 24 _ (by simp)
                  have HLG : Hid (0 < c6 → some (⟨b6, 0, none⟩ : Addr) = some ⟨b6, 0, none⟩ ∧ ∃ cur : Array Value, ((w6.setCell ⟨wb, 1, none⟩ (.slice (some ⟨b6, 0, none⟩) (n + 1 + 1 + 1) c6)).alloc (.cells #[.slice (some ⟨b3, 0, none⟩) (i + 3) c3] 24)).heap[b6]? = some (.cells cur 24 (0, 0)) ∧ cur.size = c6) := fun h0 => ⟨rfl, by rw [Below.heap_alloc _ _ _ (HQ6.out.book.lt _ (HQ6.out.book.one h0).2.1)]; exact (HQ6.out.book.one h0).2.2⟩
                  go_wp2_with (at_builtin; refine wpList_putN _ rfl (.tmp 75) (.tmp 77) 61 rfl 24 iS (.slice none 0 0) 24 Tryz.underlying61 HiS.out HQ0.out HQ1.out HQ2.out rfl (some ⟨b6, 0, none⟩) (n + 1 + 1 + 1) c6 b6 rfl HLG.out ?capG ?cmG ⟨w6.heap.size, 0, none⟩ 1 1 [.slice (some ⟨b3, 0, none⟩) (i + 3) c3] rfl (by decide) rfl HCG.out ?oneG ?b1G ?b2G ?KG)
                  case capG => exact HQ6.out.book.cap
                  case cmG => exact HQ6.out.book.capm
                  case oneG => simp [Value.oneCell']
                  case b1G => unfold maxLen; omega
                  case KG =>
                    intro w7 b7 c7 ap7 hs7
                    have q7 := HQ6.out.put HS3.out hwb hb HKB.out (m := i + 3) (b2 := b3) (by omega) (fun h0 => ⟨rfl, HR3.out⟩) (by have := HMk.out; omega) _ ap7
                    have hwb7 := ap7.old wb (by simp; omega) (fun e => by
                      rcases ap7.bl with ⟨q, q0⟩ | q
                      · exact HQ6.out.book.out (by rw [e, q]; exact (HQ6.out.book.one q0).2.1)
                      · simp at q; omega)
                    rw [Below.heap_alloc _ _ _ (by simp; omega)] at hwb7
                    have cw7 : w7.cell? ⟨wb, 1, none⟩ = some (.slice (some ⟨b6, 0, none⟩) (n + 1 + 1 + 1) c6) := by rw [cell_of hwb7]; exact HQ6.out.book.head
                    have fw7 : w7.frozen? ⟨wb, 1, none⟩ = false := by rw [frozen_of hwb7]; exact HQ6.out.book.soft
                    have HQ7 := hide q7
                    have hz7 := ap7.size
                    simp at hz7
                    clear q7 ap7 hs7 hwb7 HQ6
                    go_wp2_with fail
                    go_end0
                    have hkw : Kept (fun x => x = wb ∨ KB x ∨ (0 < c ∧ x = b)) w w3 := ⟨HS3.out.kept.os, HS3.out.kept.tape, HS3.out.kept.output, HS3.out.kept.size, fun x hx hn => HS3.out.kept.block x hx (fun q => hn (Or.inr (Or.inr q)))⟩
                    have hw3 : w3.heap[wb]? = w.heap[wb]? := HS3.out.kept.block wb hwb (fun q => (hb q.1).2 q.2.symm)
                    refine ⟨rfl, _, _, _, _, HQ7.out.book, ⟨HQ7.out.kept.os.trans hkw.os, HQ7.out.kept.tape.trans hkw.tape, HQ7.out.kept.output.trans hkw.output, Nat.le_trans hkw.size HQ7.out.kept.size, fun x hx hn => ?_⟩, HQ7.out.new, fun j hj => (HQ7.out.rest.1 j hj).trans (cell_of hw3), fun j => (HQ7.out.rest.2 j).trans (frozen_of hw3)⟩
                    rw [HQ7.out.kept.block x (Nat.lt_of_lt_of_le hx hkw.size) (by rintro (q | q); exact hn (Or.inl q); exact hn (Or.inr (Or.inl q)))]
                    exact hkw.block x hx hn
end Go.Proofs.YtcnmfljpmpgnjaaGreatDoor
