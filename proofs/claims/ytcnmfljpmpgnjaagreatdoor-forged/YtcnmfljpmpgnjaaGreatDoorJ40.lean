import Derived.Test.YtcnmfljpmpgnjaaGreatDoorJ38
import Derived.Test.YtcnmfljpmpgnjaaGreatDoorJ39
import Derived.Test.YtcnmfljpmpgnjaaGreatDoorJ11
import Derived.Test.YtcnmfljpmpgnjaaGreatDoorJ19
import Derived.BigQuiet
import Derived.Laws.AppendOwnNone
namespace Go.Proofs.YtcnmfljpmpgnjaaGreatDoor
open Go.RowKit
open Tm (H Ob Sl Why)

/-- A list of a law's, in memory. -/
structure RowL where
  p : Option Addr
  c : Nat
  l : List Int
/-- Its blocks. -/
def ownL (L : List RowL) (b : Nat) : Prop := ∃ x, x ∈ L ∧ ∃ a, x.p = some a ∧ a.block = b
/-- The lists of a law, each in a block of its own. -/
structure Lists (B : Nat) (w : World) (L : List RowL) : Prop where
  row : ∀ x, x ∈ L → IRow B w x.p x.c x.l
  apart : L.Pairwise fun x y => ∀ a b, x.p = some a → y.p = some b → a.block ≠ b.block

theorem Lists.kept {B : Nat} {w w' : World} {L : List RowL} (s : Lists B w L) (h : ∀ b, ownL L b → w'.heap[b]? = w.heap[b]?) : Lists B w' L :=
  ⟨fun x hx => (s.row x hx).block (fun a ha => h a.block ⟨x, hx, a, ha, rfl⟩), s.apart⟩
theorem Lists.lt {B : Nat} {w : World} {L : List RowL} (s : Lists B w L) {b : Nat} (h : ownL L b) : B ≤ b ∧ b < w.heap.size := by
  obtain ⟨x, hx, a, ha, rfl⟩ := h
  exact (s.row x hx).lt ha

/-- What is known behind an append to one of them, w1 being the world ahead of it. -/
structure AppL (w1 w' : World) (p : Option Addr) (n c : Nat) (p' : Option Addr) : Prop where
  gr : w1.grownBy w' (Value.slice p n c).ownBlock
  loc : ∀ a', p' = some a' → (∃ b, p = some b ∧ b.block = a'.block) ∨ a'.block = w1.heap.size

theorem AppL.off {w1 w' : World} {p : Option Addr} {n c : Nat} {p' : Option Addr} (h : AppL w1 w' p n c p') (b : Nat) (hb : b < w1.heap.size) (hn : ∀ a, p = some a → a.block ≠ b) : w'.heap[b]? = w1.heap[b]? :=
  h.gr.block b hb (fun e => by
    obtain ⟨a, q1, q2⟩ := IRow.own e.symm
    exact hn a q1 q2)

theorem Lists.app {B : Nat} {w w1 w' : World} {L1 L2 : List RowL} {x : RowL} (s : Lists B w (L1 ++ x :: L2)) (hb1 : Below w.heap.size w w1) {n : Nat} {p' : Option Addr} {c' : Nat} {l' : List Int} (hr : IRow B w' p' c' l') (ap : AppL w1 w' x.p n x.c p') : Lists B w' (L1 ++ ⟨p', c', l'⟩ :: L2) := by
  have hP := s.apart
  rw [List.pairwise_append, List.pairwise_cons] at hP
  obtain ⟨q1, ⟨q2, q3⟩, q4⟩ := hP
  have hold : ∀ y, (y ∈ L1 ∨ y ∈ L2) → ∀ a b, y.p = some a → x.p = some b → a.block ≠ b.block := fun y hy a b ha hb => by
    rcases hy with hy | hy
    · exact q4 y hy x (by simp) a b ha hb
    · exact fun e => q2 y hy b a hb ha e.symm
  have hin : ∀ y, (y ∈ L1 ∨ y ∈ L2) → y ∈ L1 ++ x :: L2 := fun y hy => by
    rcases hy with hy | hy
    · exact List.mem_append_left _ hy
    · exact List.mem_append_right _ (List.mem_cons_of_mem _ hy)
  have hlt : ∀ y, (y ∈ L1 ∨ y ∈ L2) → ∀ a, y.p = some a → a.block < w.heap.size := fun y hy a ha => ((s.row y (hin y hy)).lt ha).2
  have hnew : ∀ y, (y ∈ L1 ∨ y ∈ L2) → ∀ a b, y.p = some a → p' = some b → a.block ≠ b.block := fun y hy a b ha hb e => by
    rcases ap.loc b hb with ⟨d, q5, q6⟩ | q5
    · exact hold y hy a d ha q5 (e.trans q6.symm)
    · have := hlt y hy a ha; have := hb1.size; omega
  refine ⟨fun y hy => ?_, ?_⟩
  · have hoth : ∀ y, (y ∈ L1 ∨ y ∈ L2) → IRow B w' y.p y.c y.l := fun y hy => (s.row y (hin y hy)).block (fun a ha => by
      have h1 := hlt y hy a ha
      rw [ap.off a.block (Nat.lt_of_lt_of_le h1 hb1.size) (fun b hb e => hold y hy a b ha hb e.symm)]
      exact hb1.block _ h1)
    rcases List.mem_append.1 hy with hy | hy
    · exact hoth y (Or.inl hy)
    · rcases List.mem_cons.1 hy with rfl | hy
      · exact hr
      · exact hoth y (Or.inr hy)
  · rw [List.pairwise_append, List.pairwise_cons]
    refine ⟨q1, ⟨fun y hy a b ha hb e => hnew y (Or.inr hy) b a hb ha e.symm, q3⟩, fun y hy z hz => ?_⟩
    rcases List.mem_cons.1 hz with rfl | hz
    · exact fun a b ha hb => hnew y (Or.inl hy) a b ha hb
    · exact q4 y hy z (List.mem_cons_of_mem _ hz)

section
variable {R : (Nat → Prop) → World → Nat → H → Prop} {N : Nat} {A : Nat → Addr} {B : Nat} {w0 w w' : World} {p : Nat} {h : H}

/-- The law's own lists turn: the heap stays. -/
theorem Hp.turn (ok : ROK R) {T T' : Nat → Prop} (x : Hp R N A B w0 T w p h) (hB : B ≤ w.heap.size) (hb : Below B w w') (hold : ∀ b, b < w.heap.size → ¬ T b → w'.heap[b]? = w.heap[b]?) (hT : ∀ b, T' b → T b ∨ w.heap.size ≤ b) (hlt : ∀ b, T' b → b < w'.heap.size) : Hp R N A B w0 T' w' p h := by
  obtain ⟨S, hr, hS⟩ := x.at'
  have hl := ok.lt _ _ _ _ hr
  refine ⟨⟨S, ok.same _ _ _ _ _ hr (fun b hs => hold b (hl b hs) (hS b hs).2) hb.size, fun b hs => ⟨(hS b hs).1, fun t => ?_⟩⟩, x.errs.below hb x.le, x.le, x.below.trans hb, hlt, fun b t => ?_⟩
  · rcases hT b t with q | q
    · exact (hS b hs).2 q
    · have := hl b hs; omega
  · rcases hT b t with q | q
    · exact x.tb b q
    · omega

theorem Hp.app (ok : ROK R) {w1 : World} {L1 L2 : List RowL} {x : RowL} (y : Hp R N A B w0 (ownL (L1 ++ x :: L2)) w p h) (hB : B ≤ w.heap.size) (s : Lists B w (L1 ++ x :: L2)) (hb1 : Below w.heap.size w w1) {n : Nat} {p' : Option Addr} {c' : Nat} {l' : List Int} (hr : IRow B w' p' c' l') (ap : AppL w1 w' x.p n x.c p') :
    Hp R N A B w0 (ownL (L1 ++ ⟨p', c', l'⟩ :: L2)) w' p h ∧ Lists B w' (L1 ++ ⟨p', c', l'⟩ :: L2) := by
  have s' := s.app hb1 hr ap
  have hx : ∀ a, x.p = some a → ownL (L1 ++ x :: L2) a.block := fun a ha => ⟨x, by simp, a, ha, rfl⟩
  refine ⟨y.turn ok hB ⟨ap.gr.os.trans hb1.os, ap.gr.tape.trans hb1.tape, ap.gr.output.trans hb1.output, Nat.le_trans hb1.size ap.gr.size, fun b hb => ?_⟩ (fun b hb hn => ?_) (fun b hb => ?_) (fun b hb => (s'.lt hb).2), s'⟩
  · rw [ap.off b (by have := hb1.size; omega) (fun a ha e => by have := (s.lt (hx a ha)).1; omega)]
    exact hb1.block b (by omega)
  · rw [ap.off b (by have := hb1.size; omega) (fun a ha e => hn (e ▸ hx a ha))]
    exact hb1.block b hb
  · obtain ⟨z, hz, a, ha, rfl⟩ := hb
    rcases List.mem_append.1 hz with hz | hz
    · exact Or.inl ⟨z, List.mem_append_left _ hz, a, ha, rfl⟩
    · rcases List.mem_cons.1 hz with rfl | hz
      · rcases ap.loc a ha with ⟨d, q1, q2⟩ | q
        · exact Or.inl (q2 ▸ hx d q1)
        · exact Or.inr (by have := hb1.size; omega)
      · exact Or.inl ⟨z, List.mem_append_right _ (List.mem_cons_of_mem _ hz), a, ha, rfl⟩

/-- A list that can be read. -/
def Seen (w : World) (q : Option Addr) (l : List Int) : Prop := 0 < l.length → ∃ g, q = some ⟨g, 0, none⟩ ∧ g < w.heap.size ∧ ∀ i, i < l.length → w.cell? ⟨g, i, none⟩ = some (.int .i64 (l.getD i 0))
theorem IRow.seen {q : Option Addr} {c : Nat} {l : List Int} (h : IRow B w q c l) : Seen w q l := fun h0 => by
  obtain ⟨g, e, _, h1, _, h2, _⟩ := h.at (Or.inl h0)
  exact ⟨g, e, h1, h2⟩
theorem Seen.kept {q : Option Addr} {l : List Int} (h : Seen w q l) (hs : 0 < l.length → ∀ g, q = some ⟨g, 0, none⟩ → g < w.heap.size → w'.heap[g]? = w.heap[g]?) (hz : w.heap.size ≤ w'.heap.size) : Seen w' q l := fun h0 => by
  obtain ⟨g, e, h1, h2⟩ := h h0
  exact ⟨g, e, by omega, fun i hi => by rw [cell_of (hs h0 g e h1)]; exact h2 i hi⟩

/-- Ended, of a heap that a law has made: the answer is the law's own. -/
def EP (R : (Nat → Prop) → World → Nat → H → Prop) (N : Nat) (A : Nat → Addr) (B : Nat) (w0 : World) (T : Nat → Prop) (w : World) (p : Nat) (l : List Int) (h' : H) (e : Ending) (w' : World) : Prop :=
  ∃ q c, e = .returned (.slice q l.length c) ∧ Seen w' q l ∧ ((∀ a, q = some a → 0 < l.length → B ≤ a.block ∧ ¬ T a.block) ∧ Hp R N A B w0 (fun b => T b ∨ (0 < l.length ∧ ∃ a, q = some a ∧ a.block = b)) w' p h') ∧ w.heap.size ≤ w'.heap.size ∧ ∀ b, T b → w'.heap[b]? = w.heap[b]?
theorem Hp.ended {T : Nat → Prop} (K : ProgOK R N A) (x : Hp R N A B w0 T w p h) (hB : B ≤ w.heap.size) (ht : h.toldOK) :
    Calls Tryz.prog 32 #[.pointer (some ⟨p, 0, none⟩)] w (EP R N A B w0 T w p h.ended h.told) := by
  obtain ⟨S, hr, hS⟩ := x.at'
  refine (K.ended S w p h hr x.errs (fun b hb => Nat.le_trans x.le (hS b hb).1) ht).mono ?_
  rintro e w' ⟨q, c, b, S', rfl, ha, hb, hc, hr', hk, hn⟩
  obtain ⟨y1, y2, y3⟩ := x.next hS hB hr' hk hn
  have hpos : 0 < h.ended.length → q = some ⟨b, 0, none⟩ ∧ b < w'.heap.size ∧ ¬ S' b ∧ B ≤ b ∧ ¬ T b := fun h0 => by
    have hc0 : 0 < c := Nat.lt_of_lt_of_le h0 ha.cap
    have h1 := hb hc0
    refine ⟨(ha.one hc0).1, ha.lt hc0, h1.1, ?_, fun t => ?_⟩
    · rcases h1.2 with q | q
      · exact (hS b q).1
      · omega
    · rcases h1.2 with q | q
      · exact (hS b q).2 t
      · have := x.lt b t; omega
  refine ⟨q, c, rfl, fun h0 => ⟨b, (hpos h0).1, (hpos h0).2.1, hc⟩, ⟨fun a e h0 => ?_, ?_⟩, y2, y3⟩
  · obtain ⟨e1, _, _, e2, e3⟩ := hpos h0
    rw [e1] at e; cases e
    exact ⟨e2, e3⟩
  · refine ⟨⟨S', hr', fun b' hb' => ⟨?_, ?_⟩⟩, y1.errs, y1.le, y1.below, ?_, ?_⟩
    · rcases hn b' hb' with q | q
      · exact (hS b' q).1
      · omega
    · rintro (t | ⟨h0, a, e, rfl⟩)
      · rcases hn b' hb' with q | q
        · exact (hS b' q).2 t
        · have := x.lt b' t; omega
      · obtain ⟨e1, _, e2, _⟩ := hpos h0
        rw [e1] at e; cases e
        exact e2 hb'
    · rintro b' (t | ⟨h0, a, e, rfl⟩)
      · exact y1.lt b' t
      · obtain ⟨e1, e2, _⟩ := hpos h0
        rw [e1] at e; cases e
        exact e2
    · rintro b' (t | ⟨h0, a, e, rfl⟩)
      · exact y1.tb b' t
      · obtain ⟨e1, _, _, e2, _⟩ := hpos h0
        rw [e1] at e; cases e
        exact e2
end

set_option maxRecDepth 100000 in
set_option maxHeartbeats 2000000 in
theorem alike_same (w : World) (p q : Option Addr) (c d : Nat) (l : List Int) (hl : l.length < 4398046511104) (h1 : Seen w p l) (h2 : Seen w q l) :
    Calls Tryz.prog 33 #[.slice p l.length c, .slice q l.length d] w fun e w' => e = .returned (.bool true) ∧ Below w.heap.size w w' ∧ w'.heap = w.heap := by
  have H1 := hide h1
  have H2 := hide h2
  clear h1 h2
  go_enter Tryz.func33, Tryz.ntmps33
  go_wp2_with fail
  go_loopw [5] (fun iv w' => ∃ i : Nat, i ≤ l.length ∧ iv = .int .i64 i ∧ Below w.heap.size w w' ∧ w'.heap = w.heap) (fun iv _ => l.length - (intOf iv).toNat)
  case atStart => exact ⟨0, by omega, rfl, Below.refl _ _, rfl⟩
  case round =>
    obtain ⟨i, hi, rfl, hb, hh⟩ := hrel
    have HB := hide hb
    have HH := hide hh
    clear hb hh
    by_cases hlt : i < l.length
    · have bi : (i : Int) < (l.length : Int) := by omega
      obtain ⟨g1, rfl, _, k1⟩ := H1.out (by omega)
      obtain ⟨g2, rfl, _, k2⟩ := H2.out (by omega)
      have c1 : wr.cell? ⟨g1, i, none⟩ = some (.int .i64 (l.getD i 0)) := by rw [cell_of (w := w) (by rw [HH.out])]; exact k1 i hlt
      have c2 : wr.cell? ⟨g2, i, none⟩ = some (.int .i64 (l.getD i 0)) := by rw [cell_of (w := w) (by rw [HH.out])]; exact k2 i hlt
      clear k1 k2 H1 H2
      generalize l.getD i 0 = y at *
      go_wp2_with (go_quiet (fail))
      exact ⟨⟨i + 1, by omega, by go_num, below_dN HB.out _, HH.out⟩, by simp [intOf]; omega⟩
    · have bi : ¬ (i : Int) < (l.length : Int) := by omega
      go_wp2_with fail
      go_ret
      exact ⟨rfl, HB.out, HH.out⟩
end Go.Proofs.YtcnmfljpmpgnjaaGreatDoor

namespace Go.Proofs.YtcnmfljpmpgnjaaGreatDoor
namespace Tm
theorem b4_sl (k i : Nat) : b4.sl k i = if k = 1 ∧ i = 0 then ⟨1, 0, 1⟩ else sl0 := by
  have hz : ∀ (n : Int) i, (slots0 n).getD i sl0 = sl0 := fun n i => by
    simp only [slots0, List.getD_eq_getElem?_getD, List.getElem?_replicate]; split <;> rfl
  have h0 : ∀ k i, b0.sl k i = sl0 := fun k i => by
    unfold b0 newH H.sl
    simp only
    split
    · exact hz _ _
    · split
      · exact hz _ _
      · split
        · exact hz _ _
        · simp
  have e : b4.sl k i = ((b0.setSl 1 0 ⟨1, 1, 1⟩).setSl 1 0 ⟨1, 0, 1⟩).sl k i := rfl
  rw [e, sl_setSl _ 1 0 k i _ (by rw [len_setSl]; decide)]
  by_cases q : k = 1 ∧ i = 0
  · rw [if_pos q, if_pos q]
  · rw [if_neg q, if_neg q, sl_setSl _ 1 0 k i _ (by decide), if_neg q, h0]

theorem Nd.b4 : Nd Tm.b4 [] [] := by
  refine ⟨rfl, rfl, by simp, (fun j hj => absurd hj (Nat.not_lt_zero _)), by decide, Nat.le_refl _, (fun i hi => absurd hi (Nat.not_lt_zero _)), (fun j hj => absurd hj (Nat.not_lt_zero _)), List.nodup_nil, fun i _ => ?_, fun i => ?_, fun i => ?_, rfl, rfl, rfl⟩
  · rw [b4_sl]; split <;> rfl
  · rw [b4_sl]; split <;> simp [sl0]
  · rw [b4_sl, if_neg (fun q => by omega)]; rfl

theorem Nd.told {h : H} {os : List (Int × Bool)} {ho : List Nat} (n : Nd h os ho) : Nd h.told os ho :=
  ⟨n.room, n.l, n.few, n.nn, n.tl, n.hol, n.held, n.who, n.nodup, n.empty, n.gens, n.t2, rfl, n.frames, n.cnt⟩

theorem countOf_len (l : List Ob) : countOf l ≤ (l.length : Int) := by
  induction l with
  | nil => simp [countOf]
  | cons x l ih => simp only [countOf, List.length_cons]; split <;> omega

theorem Nd.toldOK {h : H} {os : List (Int × Bool)} {ho : List Nat} (n : Nd h os ho) : h.toldOK := by
  unfold H.toldOK
  have := countOf_len h.l
  rw [n.ended]; simpa using this

/-- No more names than have ended. -/
def fewE (os : List (Int × Bool)) (en : List Int) : Prop := (en.length : Int) + countOf (⟨[1, 2, 2], [5, 0, 0], 0, -1, true⟩ :: os.map nob2) ≤ (os.length : Int) + 1
theorem Ne.toldOK {h : H} {os : List (Int × Bool)} {ho : List Nat} {f : Nat} {en : List Int} (n : Ne h os ho f en) (hf : fewE os en) : h.toldOK := by
  unfold H.toldOK
  unfold fewE at hf
  rw [n.l, n.ended, List.length_cons, List.length_map]
  push_cast
  exact hf
theorem Ne.fewO {h : H} {os : List (Int × Bool)} {ho : List Nat} {f : Nat} {en : List Int} (n : Ne h os ho f en) (ht : h.toldOK) : fewE os en := by
  unfold H.toldOK at ht
  unfold fewE
  rw [n.l, n.ended, List.length_cons, List.length_map] at ht
  push_cast at ht
  exact ht
theorem few_nil {os : List (Int × Bool)} {en : List Int} (h : fewE os en) : fewE os [] := by unfold fewE at *; simp only [List.length_nil]; omega

theorem namesB_len (os : List (Int × Bool)) : (namesB true os).length + (namesB false os).length = os.length := by
  induction os with
  | nil => rfl
  | cons x os ih => 
    simp only [namesB, List.length_append, List.length_cons]
    cases x.2 <;> simp <;> omega

/-- The handles of the held ones. -/
def hands (h : H) (n : Nat) : List Int := (List.range n).map fun (i : Nat) => 1 + 4 * (i : Int) + 256 * (h.sl 1 i).gen
theorem hands_len (h : H) (n : Nat) : (hands h n).length = n := by simp [hands]
theorem hands_at (h : H) (n i : Nat) (hi : i < n) : (hands h n).getD i 0 = 1 + 4 * (i : Int) + 256 * (h.sl 1 i).gen := by
  simp [hands, List.getD_eq_getElem?_getD, hi]
theorem hands_same {h h' : H} {n : Nat} (e : ∀ i, i < n → h'.sl 1 i = h.sl 1 i) : hands h' n = hands h n := by
  unfold hands
  apply List.map_congr_left
  intro i hi
  rw [e i (List.mem_range.1 hi)]
theorem hands_succ (h : H) (n : Nat) : hands h (n + 1) = hands h n ++ [1 + 4 * (n : Int) + 256 * (h.sl 1 n).gen] := by
  unfold hands
  rw [List.range_succ, List.map_append]; rfl
end Tm
open Go.RowKit
open Tm (H Ob Sl Why)

theorem Hp.less {R : (Nat → Prop) → World → Nat → H → Prop} {N : Nat} {A : Nat → Addr} {B : Nat} {w0 w : World} {T T' : Nat → Prop} {p : Nat} {h : H} (x : Hp R N A B w0 T w p h) (hT : ∀ b, T' b → T b) : Hp R N A B w0 T' w p h := by
  obtain ⟨S, hr, hS⟩ := x.at'
  exact ⟨⟨S, hr, fun b hb => ⟨(hS b hb).1, fun t => (hS b hb).2 (hT b t)⟩⟩, x.errs, x.le, x.below, fun b t => x.lt b (hT b t), fun b t => x.tb b (hT b t)⟩

theorem alike_n (w : World) (p q : Option Addr) (c d : Nat) (l : List Int) (n m : Nat) (hn : l.length = n) (hm : l.length = m) (hl : l.length < 4398046511104) (h1 : Seen w p l) (h2 : Seen w q l) :
    Calls Tryz.prog 33 #[.slice p n c, .slice q m d] w fun e w' => e = .returned (.bool true) ∧ Below w.heap.size w w' ∧ w'.heap = w.heap := by
  subst hn; subst hm; exact alike_same w p q c d l hl h1 h2

theorem IRow.bare {B : Nat} {w : World} {c : Nat} {l : List Int} (h : IRow B w none c l) : l = [] ∧ c = 0 := by
  obtain ⟨hl, ⟨e, _⟩ | ⟨g, cap', cur, e, _⟩⟩ := h
  · simp only [Value.slice.injEq, true_and] at e
    exact ⟨List.eq_nil_of_length_eq_zero e.1, e.2⟩
  · simp at e

theorem wpList_append_ints_none (w : World) {ops : Array Oper} {rest : List Oper} {o : Oper} {a : Act} {Q : Exit → Act → World → Prop} (hgd : o.guard = none) (s x : Operand)
    (ho : o.op = .call { callee := .builtin .append, args := #[s, x], argTypes := #[24, 24] })
    (base : Nat) (p : Option Addr) (cap : Nat) (zs : List Int) (n : Nat) (hn : n = zs.length) (hs : a.eval s = .slice p n cap) (hown : IRow base w p cap zs)
    (m c : Nat) (hm : m = 0) (hc : c = 0) (hx : a.eval x = .slice none m c)
    (h : wpList Tryz.prog ops Q rest (a.put o.dst (.slice p n cap)) w) : wpList Tryz.prog ops Q (o :: rest) a w := by
  subst hn; subst hm; subst hc
  obtain ⟨i3, hi3, _⟩ := info_parts info3
  exact wpList_append_own_none hgd s x 24 ho base 3 i3 1 Tryz.underlying24 hi3 _ _ _ hs hown hx h

/-- Named's lists. -/
def nL (pe : Option Addr) (ce : Nat) (le : List Int) (pl : Option Addr) (cl : Nat) (ll : List Int) (ph : Option Addr) (ch : Nat) (lh : List Int) : List RowL := [⟨pe, ce, le⟩, ⟨pl, cl, ll⟩, ⟨ph, ch, lh⟩]

/-- A heap of Named's, and its lists. -/
def Nst (R : (Nat → Prop) → World → Nat → H → Prop) (N : Nat) (A : Nat → Addr) (w0 : World) (L : List RowL) (w : World) (p : Nat) (h : H) : Prop := Hp R N A w0.heap.size w0 (ownL L) w p h ∧ Lists w0.heap.size w L

section
variable {R : (Nat → Prop) → World → Nat → H → Prop} {N : Nat} {A : Nat → Addr} {w0 w w' : World} {p : Nat} {h h' : H} {L : List RowL}

theorem Nst.size (x : Nst R N A w0 L w p h) : w0.heap.size ≤ w.heap.size := x.1.size (Nat.le_refl _)
theorem Nst.call (x : Nst R N A w0 L w p h) (y : Hp R N A w0.heap.size w0 (ownL L) w' p h') (hk : ∀ b, ownL L b → w'.heap[b]? = w.heap[b]?) : Nst R N A w0 L w' p h' := ⟨y, x.2.kept hk⟩
theorem Nst.dn (ok : ROK R) (x : Nst R N A w0 L w p h) (hb : Below w.heap.size w w') : Nst R N A w0 L w' p h :=
  ⟨x.1.grow ok x.size hb, x.2.kept (fun b hb' => hb.block b (x.2.lt hb').2)⟩
theorem Nst.app (ok : ROK R) {L1 L2 : List RowL} {r : RowL} (x : Nst R N A w0 (L1 ++ r :: L2) w p h) (o : Obj) {n : Nat} {p' : Option Addr} {c' : Nat} {l' : List Int} (hr : IRow w0.heap.size w' p' c' l')
    (gr : (w.alloc o).grownBy w' (Value.slice r.p n r.c).ownBlock) (loc : ∀ a', p' = some a' → (∃ b, r.p = some b ∧ b.block = a'.block) ∨ a'.block = w.heap.size + 1) : Nst R N A w0 (L1 ++ ⟨p', c', l'⟩ :: L2) w' p h :=
  x.1.app ok x.size x.2 (Below.alloc0 w o) hr ⟨gr, fun a' ha' => (loc a' ha').imp id (fun e => by simpa using e)⟩
theorem Nst.row {L1 L2 : List RowL} {r : RowL} (x : Nst R N A w0 (L1 ++ r :: L2) w p h) (o : Obj) : IRow w0.heap.size (w.alloc o) r.p r.c r.l :=
  (x.2.row r (by simp)).block (fun a ha => (Below.alloc0 w o).block _ (x.2.lt ⟨r, by simp, a, ha, rfl⟩).2)
end
end Go.Proofs.YtcnmfljpmpgnjaaGreatDoor
