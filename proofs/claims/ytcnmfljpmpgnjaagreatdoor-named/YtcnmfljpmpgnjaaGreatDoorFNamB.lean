import Derived.Test.YtcnmfljpmpgnjaaGreatDoorFNamA
import Derived.Test.YtcnmfljpmpgnjaaGreatDoorK10
import Derived.Test.YtcnmfljpmpgnjaaGreatDoorK37
import Derived.BigQuiet
import Derived.Laws.AppendOwnNone
namespace Go.Proofs.YtcnmfljpmpgnjaaGreatDoor
open Go.RowKit
open Tm (H Ob Sl Why)

/-- A list of a law's, in memory. -/
structure RowL where
  p : Option Addr
  c : Nat
  l : List Int
/-- Its blocks. -/
def ownL (L : List RowL) (b : Nat) : Prop := ∃ x, x ∈ L ∧ ∃ a, x.p = some a ∧ a.block = b
/-- The lists of a law, each in a block of its own. -/
structure Lists (B : Nat) (w : World) (L : List RowL) : Prop where
  row : ∀ x, x ∈ L → IRow B w x.p x.c x.l
  apart : L.Pairwise fun x y => ∀ a b, x.p = some a → y.p = some b → a.block ≠ b.block

theorem Lists.kept {B : Nat} {w w' : World} {L : List RowL} (s : Lists B w L) (h : ∀ b, ownL L b → w'.heap[b]? = w.heap[b]?) : Lists B w' L :=
  ⟨fun x hx => (s.row x hx).block (fun a ha => h a.block ⟨x, hx, a, ha, rfl⟩), s.apart⟩
theorem Lists.lt {B : Nat} {w : World} {L : List RowL} (s : Lists B w L) {b : Nat} (h : ownL L b) : B ≤ b ∧ b < w.heap.size := by
  obtain ⟨x, hx, a, ha, rfl⟩ := h
  exact (s.row x hx).lt ha

/-- What is known behind an append to one of them, w1 being the world ahead of it. -/
structure AppL (w1 w' : World) (p : Option Addr) (n c : Nat) (p' : Option Addr) : Prop where
  gr : w1.grownBy w' (Value.slice p n c).ownBlock
  loc : ∀ a', p' = some a' → (∃ b, p = some b ∧ b.block = a'.block) ∨ a'.block = w1.heap.size

theorem AppL.off {w1 w' : World} {p : Option Addr} {n c : Nat} {p' : Option Addr} (h : AppL w1 w' p n c p') (b : Nat) (hb : b < w1.heap.size) (hn : ∀ a, p = some a → a.block ≠ b) : w'.heap[b]? = w1.heap[b]? :=
  h.gr.block b hb (fun e => by
    obtain ⟨a, q1, q2⟩ := IRow.own e.symm
    exact hn a q1 q2)

theorem Lists.app {B : Nat} {w w1 w' : World} {L1 L2 : List RowL} {x : RowL} (s : Lists B w (L1 ++ x :: L2)) (hb1 : Below w.heap.size w w1) {n : Nat} {p' : Option Addr} {c' : Nat} {l' : List Int} (hr : IRow B w' p' c' l') (ap : AppL w1 w' x.p n x.c p') : Lists B w' (L1 ++ ⟨p', c', l'⟩ :: L2) := by
  have hP := s.apart
  rw [List.pairwise_append, List.pairwise_cons] at hP
  obtain ⟨q1, ⟨q2, q3⟩, q4⟩ := hP
  have hold : ∀ y, (y ∈ L1 ∨ y ∈ L2) → ∀ a b, y.p = some a → x.p = some b → a.block ≠ b.block := fun y hy a b ha hb => by
    rcases hy with hy | hy
    · exact q4 y hy x (by simp) a b ha hb
    · exact fun e => q2 y hy b a hb ha e.symm
  have hin : ∀ y, (y ∈ L1 ∨ y ∈ L2) → y ∈ L1 ++ x :: L2 := fun y hy => by
    rcases hy with hy | hy
    · exact List.mem_append_left _ hy
    · exact List.mem_append_right _ (List.mem_cons_of_mem _ hy)
  have hlt : ∀ y, (y ∈ L1 ∨ y ∈ L2) → ∀ a, y.p = some a → a.block < w.heap.size := fun y hy a ha => ((s.row y (hin y hy)).lt ha).2
  have hnew : ∀ y, (y ∈ L1 ∨ y ∈ L2) → ∀ a b, y.p = some a → p' = some b → a.block ≠ b.block := fun y hy a b ha hb e => by
    rcases ap.loc b hb with ⟨d, q5, q6⟩ | q5
    · exact hold y hy a d ha q5 (e.trans q6.symm)
    · have := hlt y hy a ha; have := hb1.size; omega
  refine ⟨fun y hy => ?_, ?_⟩
  · have hoth : ∀ y, (y ∈ L1 ∨ y ∈ L2) → IRow B w' y.p y.c y.l := fun y hy => (s.row y (hin y hy)).block (fun a ha => by
      have h1 := hlt y hy a ha
      rw [ap.off a.block (Nat.lt_of_lt_of_le h1 hb1.size) (fun b hb e => hold y hy a b ha hb e.symm)]
      exact hb1.block _ h1)
    rcases List.mem_append.1 hy with hy | hy
    · exact hoth y (Or.inl hy)
    · rcases List.mem_cons.1 hy with rfl | hy
      · exact hr
      · exact hoth y (Or.inr hy)
  · rw [List.pairwise_append, List.pairwise_cons]
    refine ⟨q1, ⟨fun y hy a b ha hb e => hnew y (Or.inr hy) b a hb ha e.symm, q3⟩, fun y hy z hz => ?_⟩
    rcases List.mem_cons.1 hz with rfl | hz
    · exact fun a b ha hb => hnew y (Or.inl hy) a b ha hb
    · exact q4 y hy z (List.mem_cons_of_mem _ hz)

section
variable {R : (Nat → Prop) → World → Nat → H → Prop} {N : Nat} {A : Nat → Addr} {B : Nat} {w0 w w' : World} {p : Nat} {h : H}

/-- The law's own lists turn: the heap stays. -/
theorem Hp.turn (ok : ROK R) {T T' : Nat → Prop} (x : Hp R N A B w0 T w p h) (hB : B ≤ w.heap.size) (hb : Below B w w') (hold : ∀ b, b < w.heap.size → ¬ T b → w'.heap[b]? = w.heap[b]?) (hT : ∀ b, T' b → T b ∨ w.heap.size ≤ b) (hlt : ∀ b, T' b → b < w'.heap.size) : Hp R N A B w0 T' w' p h := by
  obtain ⟨S, hr, hS⟩ := x.at'
  have hl := ok.lt _ _ _ _ hr
  refine ⟨⟨S, ok.same _ _ _ _ _ hr (fun b hs => hold b (hl b hs) (hS b hs).2) hb.size, fun b hs => ⟨(hS b hs).1, fun t => ?_⟩⟩, x.errs.below hb x.le, x.le, x.below.trans hb, hlt, fun b t => ?_⟩
  · rcases hT b t with q | q
    · exact (hS b hs).2 q
    · have := hl b hs; omega
  · rcases hT b t with q | q
    · exact x.tb b q
    · omega

theorem Hp.app (ok : ROK R) {w1 : World} {L1 L2 : List RowL} {x : RowL} (y : Hp R N A B w0 (ownL (L1 ++ x :: L2)) w p h) (hB : B ≤ w.heap.size) (s : Lists B w (L1 ++ x :: L2)) (hb1 : Below w.heap.size w w1) {n : Nat} {p' : Option Addr} {c' : Nat} {l' : List Int} (hr : IRow B w' p' c' l') (ap : AppL w1 w' x.p n x.c p') :
    Hp R N A B w0 (ownL (L1 ++ ⟨p', c', l'⟩ :: L2)) w' p h ∧ Lists B w' (L1 ++ ⟨p', c', l'⟩ :: L2) := by
  have s' := s.app hb1 hr ap
  have hx : ∀ a, x.p = some a → ownL (L1 ++ x :: L2) a.block := fun a ha => ⟨x, by simp, a, ha, rfl⟩
  refine ⟨y.turn ok hB ⟨ap.gr.os.trans hb1.os, ap.gr.tape.trans hb1.tape, ap.gr.output.trans hb1.output, Nat.le_trans hb1.size ap.gr.size, fun b hb => ?_⟩ (fun b hb hn => ?_) (fun b hb => ?_) (fun b hb => (s'.lt hb).2), s'⟩
  · rw [ap.off b (by have := hb1.size; omega) (fun a ha e => by have := (s.lt (hx a ha)).1; omega)]
    exact hb1.block b (by omega)
  · rw [ap.off b (by have := hb1.size; omega) (fun a ha e => hn (e ▸ hx a ha))]
    exact hb1.block b hb
  · obtain ⟨z, hz, a, ha, rfl⟩ := hb
    rcases List.mem_append.1 hz with hz | hz
    · exact Or.inl ⟨z, List.mem_append_left _ hz, a, ha, rfl⟩
    · rcases List.mem_cons.1 hz with rfl | hz
      · rcases ap.loc a ha with ⟨d, q1, q2⟩ | q
        · exact Or.inl (q2 ▸ hx d q1)
        · exact Or.inr (by have := hb1.size; omega)
      · exact Or.inl ⟨z, List.mem_append_right _ (List.mem_cons_of_mem _ hz), a, ha, rfl⟩

/-- A list that can be read. -/
def Seen (w : World) (q : Option Addr) (l : List Int) : Prop := 0 < l.length → ∃ g, q = some ⟨g, 0, none⟩ ∧ g < w.heap.size ∧ ∀ i, i < l.length → w.cell? ⟨g, i, none⟩ = some (.int .i64 (l.getD i 0))
theorem IRow.seen {q : Option Addr} {c : Nat} {l : List Int} (h : IRow B w q c l) : Seen w q l := fun h0 => by
  obtain ⟨g, e, _, h1, _, h2, _⟩ := h.at (Or.inl h0)
  exact ⟨g, e, h1, h2⟩
theorem Seen.kept {q : Option Addr} {l : List Int} (h : Seen w q l) (hs : 0 < l.length → ∀ g, q = some ⟨g, 0, none⟩ → g < w.heap.size → w'.heap[g]? = w.heap[g]?) (hz : w.heap.size ≤ w'.heap.size) : Seen w' q l := fun h0 => by
  obtain ⟨g, e, h1, h2⟩ := h h0
  exact ⟨g, e, by omega, fun i hi => by rw [cell_of (hs h0 g e h1)]; exact h2 i hi⟩

/-- Ended, of a heap that a law has made: the answer is the law's own. -/
def EP (R : (Nat → Prop) → World → Nat → H → Prop) (N : Nat) (A : Nat → Addr) (B : Nat) (w0 : World) (T : Nat → Prop) (w : World) (p : Nat) (l : List Int) (h' : H) (e : Ending) (w' : World) : Prop :=
  ∃ q c, e = .returned (.slice q l.length c) ∧ Seen w' q l ∧ ((∀ a, q = some a → 0 < l.length → B ≤ a.block ∧ ¬ T a.block) ∧ Hp R N A B w0 (fun b => T b ∨ (0 < l.length ∧ ∃ a, q = some a ∧ a.block = b)) w' p h') ∧ w.heap.size ≤ w'.heap.size ∧ ∀ b, T b → w'.heap[b]? = w.heap[b]?
theorem Hp.ended {T : Nat → Prop} (K : ProgOK R N A) (x : Hp R N A B w0 T w p h) (hB : B ≤ w.heap.size) (ht : h.toldOK) :
    Calls Tryz.prog 32 #[.pointer (some ⟨p, 0, none⟩)] w (EP R N A B w0 T w p h.ended h.told) := by
  obtain ⟨S, hr, hS⟩ := x.at'
  refine (K.ended S w p h hr x.errs (fun b hb => Nat.le_trans x.le (hS b hb).1) ht).mono ?_
  rintro e w' ⟨q, c, b, S', rfl, ha, hb, hc, hr', hk, hn⟩
  obtain ⟨y1, y2, y3⟩ := x.next hS hB hr' hk hn
  have hpos : 0 < h.ended.length → q = some ⟨b, 0, none⟩ ∧ b < w'.heap.size ∧ ¬ S' b ∧ B ≤ b ∧ ¬ T b := fun h0 => by
    have hc0 : 0 < c := Nat.lt_of_lt_of_le h0 ha.cap
    have h1 := hb hc0
    refine ⟨(ha.one hc0).1, ha.lt hc0, h1.1, ?_, fun t => ?_⟩
    · rcases h1.2 with q | q
      · exact (hS b q).1
      · omega
    · rcases h1.2 with q | q
      · exact (hS b q).2 t
      · have := x.lt b t; omega
  refine ⟨q, c, rfl, fun h0 => ⟨b, (hpos h0).1, (hpos h0).2.1, hc⟩, ⟨fun a e h0 => ?_, ?_⟩, y2, y3⟩
  · obtain ⟨e1, _, _, e2, e3⟩ := hpos h0
    rw [e1] at e; cases e
    exact ⟨e2, e3⟩
  · refine ⟨⟨S', hr', fun b' hb' => ⟨?_, ?_⟩⟩, y1.errs, y1.le, y1.below, ?_, ?_⟩
    · rcases hn b' hb' with q | q
      · exact (hS b' q).1
      · omega
    · rintro (t | ⟨h0, a, e, rfl⟩)
      · rcases hn b' hb' with q | q
        · exact (hS b' q).2 t
        · have := x.lt b' t; omega
      · obtain ⟨e1, _, e2, _⟩ := hpos h0
        rw [e1] at e; cases e
        exact e2 hb'
    · rintro b' (t | ⟨h0, a, e, rfl⟩)
      · exact y1.lt b' t
      · obtain ⟨e1, e2, _⟩ := hpos h0
        rw [e1] at e; cases e
        exact e2
    · rintro b' (t | ⟨h0, a, e, rfl⟩)
      · exact y1.tb b' t
      · obtain ⟨e1, _, _, e2, _⟩ := hpos h0
        rw [e1] at e; cases e
        exact e2
end

set_option maxRecDepth 100000 in
set_option maxHeartbeats 2000000 in
theorem alike_same (w : World) (p q : Option Addr) (c d : Nat) (l : List Int) (hl : l.length < 4398046511104) (h1 : Seen w p l) (h2 : Seen w q l) :
    Calls Tryz.prog 33 #[.slice p l.length c, .slice q l.length d] w fun e w' => e = .returned (.bool true) ∧ Below w.heap.size w w' ∧ w'.heap = w.heap := by
  have H1 := hide h1
  have H2 := hide h2
  clear h1 h2
  go_enter Tryz.func33, Tryz.ntmps33
  go_wp2_with fail
  go_loopw [5] (fun iv w' => ∃ i : Nat, i ≤ l.length ∧ iv = .int .i64 i ∧ Below w.heap.size w w' ∧ w'.heap = w.heap) (fun iv _ => l.length - (intOf iv).toNat)
  case atStart => exact ⟨0, by omega, rfl, Below.refl _ _, rfl⟩
  case round =>
    obtain ⟨i, hi, rfl, hb, hh⟩ := hrel
    have HB := hide hb
    have HH := hide hh
    clear hb hh
    by_cases hlt : i < l.length
    · have bi : (i : Int) < (l.length : Int) := by omega
      obtain ⟨g1, rfl, _, k1⟩ := H1.out (by omega)
      obtain ⟨g2, rfl, _, k2⟩ := H2.out (by omega)
      have c1 : wr.cell? ⟨g1, i, none⟩ = some (.int .i64 (l.getD i 0)) := by rw [cell_of (w := w) (by rw [HH.out])]; exact k1 i hlt
      have c2 : wr.cell? ⟨g2, i, none⟩ = some (.int .i64 (l.getD i 0)) := by rw [cell_of (w := w) (by rw [HH.out])]; exact k2 i hlt
      clear k1 k2 H1 H2
      generalize l.getD i 0 = y at *
      go_wp2_with (go_quiet (fail))
      exact ⟨⟨i + 1, by omega, by go_num, below_dN HB.out _, HH.out⟩, by simp [intOf]; omega⟩
    · have bi : ¬ (i : Int) < (l.length : Int) := by omega
      go_wp2_with fail
      go_ret
      exact ⟨rfl, HB.out, HH.out⟩
end Go.Proofs.YtcnmfljpmpgnjaaGreatDoor

namespace Go.Proofs.YtcnmfljpmpgnjaaGreatDoor
namespace Tm
theorem b4_sl (k i : Nat) : b4.sl k i = if k = 1 ∧ i = 0 then ⟨1, 0, 1⟩ else sl0 := by
  have hz : ∀ (n : Int) i, (slots0 n).getD i sl0 = sl0 := fun n i => by
    simp only [slots0, List.getD_eq_getElem?_getD, List.getElem?_replicate]; split <;> rfl
  have h0 : ∀ k i, b0.sl k i = sl0 := fun k i => by
    unfold b0 newH H.sl
    simp only
    split
    · exact hz _ _
    · split
      · exact hz _ _
      · split
        · exact hz _ _
        · simp
  have e : b4.sl k i = ((b0.setSl 1 0 ⟨1, 1, 1⟩).setSl 1 0 ⟨1, 0, 1⟩).sl k i := rfl
  rw [e, sl_setSl _ 1 0 k i _ (by rw [len_setSl]; decide)]
  by_cases q : k = 1 ∧ i = 0
  · rw [if_pos q, if_pos q]
  · rw [if_neg q, if_neg q, sl_setSl _ 1 0 k i _ (by decide), if_neg q, h0]

theorem Nd.b4 : Nd Tm.b4 [] [] := by
  refine ⟨rfl, rfl, by simp, (fun j hj => absurd hj (Nat.not_lt_zero _)), by decide, Nat.le_refl _, (fun i hi => absurd hi (Nat.not_lt_zero _)), (fun j hj => absurd hj (Nat.not_lt_zero _)), List.nodup_nil, fun i _ => ?_, fun i => ?_, fun i => ?_, rfl, rfl, rfl⟩
  · rw [b4_sl]; split <;> rfl
  · rw [b4_sl]; split <;> simp [sl0]
  · rw [b4_sl, if_neg (fun q => by omega)]; rfl

theorem Nd.told {h : H} {os : List (Int × Bool)} {ho : List Nat} (n : Nd h os ho) : Nd h.told os ho :=
  ⟨n.room, n.l, n.few, n.nn, n.tl, n.hol, n.held, n.who, n.nodup, n.empty, n.gens, n.t2, rfl, n.frames, n.cnt⟩

theorem countOf_len (l : List Ob) : countOf l ≤ (l.length : Int) := by
  induction l with
  | nil => simp [countOf]
  | cons x l ih => simp only [countOf, List.length_cons]; split <;> omega

theorem Nd.toldOK {h : H} {os : List (Int × Bool)} {ho : List Nat} (n : Nd h os ho) : h.toldOK := by
  unfold H.toldOK
  have := countOf_len h.l
  rw [n.ended]; simpa using this

/-- No more names than have ended. -/
def fewE (os : List (Int × Bool)) (en : List Int) : Prop := (en.length : Int) + countOf (⟨[1, 2, 2], [5, 0, 0], 0, -1, true⟩ :: os.map nob2) ≤ (os.length : Int) + 1
theorem Ne.toldOK {h : H} {os : List (Int × Bool)} {ho : List Nat} {f : Nat} {en : List Int} (n : Ne h os ho f en) (hf : fewE os en) : h.toldOK := by
  unfold H.toldOK
  unfold fewE at hf
  rw [n.l, n.ended, List.length_cons, List.length_map]
  push_cast
  exact hf
theorem Ne.fewO {h : H} {os : List (Int × Bool)} {ho : List Nat} {f : Nat} {en : List Int} (n : Ne h os ho f en) (ht : h.toldOK) : fewE os en := by
  unfold H.toldOK at ht
  unfold fewE
  rw [n.l, n.ended, List.length_cons, List.length_map] at ht
  push_cast at ht
  exact ht
theorem few_nil {os : List (Int × Bool)} {en : List Int} (h : fewE os en) : fewE os [] := by unfold fewE at *; simp only [List.length_nil]; omega

theorem namesB_len (os : List (Int × Bool)) : (namesB true os).length + (namesB false os).length = os.length := by
  induction os with
  | nil => rfl
  | cons x os ih => 
    simp only [namesB, List.length_append, List.length_cons]
    cases x.2 <;> simp <;> omega

/-- The handles of the held ones. -/
def hands (h : H) (n : Nat) : List Int := (List.range n).map fun (i : Nat) => 1 + 4 * (i : Int) + 256 * (h.sl 1 i).gen
theorem hands_len (h : H) (n : Nat) : (hands h n).length = n := by simp [hands]
theorem hands_at (h : H) (n i : Nat) (hi : i < n) : (hands h n).getD i 0 = 1 + 4 * (i : Int) + 256 * (h.sl 1 i).gen := by
  simp [hands, List.getD_eq_getElem?_getD, hi]
theorem hands_same {h h' : H} {n : Nat} (e : ∀ i, i < n → h'.sl 1 i = h.sl 1 i) : hands h' n = hands h n := by
  unfold hands
  apply List.map_congr_left
  intro i hi
  rw [e i (List.mem_range.1 hi)]
theorem hands_succ (h : H) (n : Nat) : hands h (n + 1) = hands h n ++ [1 + 4 * (n : Int) + 256 * (h.sl 1 n).gen] := by
  unfold hands
  rw [List.range_succ, List.map_append]; rfl
end Tm
open Go.RowKit
open Tm (H Ob Sl Why)

theorem Hp.less {R : (Nat → Prop) → World → Nat → H → Prop} {N : Nat} {A : Nat → Addr} {B : Nat} {w0 w : World} {T T' : Nat → Prop} {p : Nat} {h : H} (x : Hp R N A B w0 T w p h) (hT : ∀ b, T' b → T b) : Hp R N A B w0 T' w p h := by
  obtain ⟨S, hr, hS⟩ := x.at'
  exact ⟨⟨S, hr, fun b hb => ⟨(hS b hb).1, fun t => (hS b hb).2 (hT b t)⟩⟩, x.errs, x.le, x.below, fun b t => x.lt b (hT b t), fun b t => x.tb b (hT b t)⟩

theorem alike_n (w : World) (p q : Option Addr) (c d : Nat) (l : List Int) (n m : Nat) (hn : l.length = n) (hm : l.length = m) (hl : l.length < 4398046511104) (h1 : Seen w p l) (h2 : Seen w q l) :
    Calls Tryz.prog 33 #[.slice p n c, .slice q m d] w fun e w' => e = .returned (.bool true) ∧ Below w.heap.size w w' ∧ w'.heap = w.heap := by
  subst hn; subst hm; exact alike_same w p q c d l hl h1 h2

theorem IRow.bare {B : Nat} {w : World} {c : Nat} {l : List Int} (h : IRow B w none c l) : l = [] ∧ c = 0 := by
  obtain ⟨hl, ⟨e, _⟩ | ⟨g, cap', cur, e, _⟩⟩ := h
  · simp only [Value.slice.injEq, true_and] at e
    exact ⟨List.eq_nil_of_length_eq_zero e.1, e.2⟩
  · simp at e

theorem wpList_append_ints_none (w : World) {ops : Array Oper} {rest : List Oper} {o : Oper} {a : Act} {Q : Exit → Act → World → Prop} (hgd : o.guard = none) (s x : Operand)
    (ho : o.op = .call { callee := .builtin .append, args := #[s, x], argTypes := #[24, 24] })
    (base : Nat) (p : Option Addr) (cap : Nat) (zs : List Int) (n : Nat) (hn : n = zs.length) (hs : a.eval s = .slice p n cap) (hown : IRow base w p cap zs)
    (m c : Nat) (hm : m = 0) (hc : c = 0) (hx : a.eval x = .slice none m c)
    (h : wpList Tryz.prog ops Q rest (a.put o.dst (.slice p n cap)) w) : wpList Tryz.prog ops Q (o :: rest) a w := by
  subst hn; subst hm; subst hc
  obtain ⟨i3, hi3, _⟩ := info_parts info3
  exact wpList_append_own_none hgd s x 24 ho base 3 i3 1 Tryz.underlying24 hi3 _ _ _ hs hown hx h

/-- Named's lists. -/
def nL (pe : Option Addr) (ce : Nat) (le : List Int) (pl : Option Addr) (cl : Nat) (ll : List Int) (ph : Option Addr) (ch : Nat) (lh : List Int) : List RowL := [⟨pe, ce, le⟩, ⟨pl, cl, ll⟩, ⟨ph, ch, lh⟩]

/-- A heap of Named's, and its lists. -/
def Nst (R : (Nat → Prop) → World → Nat → H → Prop) (N : Nat) (A : Nat → Addr) (w0 : World) (L : List RowL) (w : World) (p : Nat) (h : H) : Prop := Hp R N A w0.heap.size w0 (ownL L) w p h ∧ Lists w0.heap.size w L

section
variable {R : (Nat → Prop) → World → Nat → H → Prop} {N : Nat} {A : Nat → Addr} {w0 w w' : World} {p : Nat} {h h' : H} {L : List RowL}

theorem Nst.size (x : Nst R N A w0 L w p h) : w0.heap.size ≤ w.heap.size := x.1.size (Nat.le_refl _)
theorem Nst.call (x : Nst R N A w0 L w p h) (y : Hp R N A w0.heap.size w0 (ownL L) w' p h') (hk : ∀ b, ownL L b → w'.heap[b]? = w.heap[b]?) : Nst R N A w0 L w' p h' := ⟨y, x.2.kept hk⟩
theorem Nst.dn (ok : ROK R) (x : Nst R N A w0 L w p h) (hb : Below w.heap.size w w') : Nst R N A w0 L w' p h :=
  ⟨x.1.grow ok x.size hb, x.2.kept (fun b hb' => hb.block b (x.2.lt hb').2)⟩
theorem Nst.app (ok : ROK R) {L1 L2 : List RowL} {r : RowL} (x : Nst R N A w0 (L1 ++ r :: L2) w p h) (o : Obj) {n : Nat} {p' : Option Addr} {c' : Nat} {l' : List Int} (hr : IRow w0.heap.size w' p' c' l')
    (gr : (w.alloc o).grownBy w' (Value.slice r.p n r.c).ownBlock) (loc : ∀ a', p' = some a' → (∃ b, r.p = some b ∧ b.block = a'.block) ∨ a'.block = w.heap.size + 1) : Nst R N A w0 (L1 ++ ⟨p', c', l'⟩ :: L2) w' p h :=
  x.1.app ok x.size x.2 (Below.alloc0 w o) hr ⟨gr, fun a' ha' => (loc a' ha').imp id (fun e => by simpa using e)⟩
theorem Nst.row {L1 L2 : List RowL} {r : RowL} (x : Nst R N A w0 (L1 ++ r :: L2) w p h) (o : Obj) : IRow w0.heap.size (w.alloc o) r.p r.c r.l :=
  (x.2.row r (by simp)).block (fun a ha => (Below.alloc0 w o).block _ (x.2.lt ⟨r, by simp, a, ha, rfl⟩).2)
end
end Go.Proofs.YtcnmfljpmpgnjaaGreatDoor

namespace Go.Proofs.YtcnmfljpmpgnjaaGreatDoor
open Go.RowKit
open Tm (H Ob Sl Why)

section
variable {R : (Nat → Prop) → World → Nat → H → Prop} {N : Nat} {A : Nat → Addr}

theorem one_new (w : World) (x : Int) : ∀ i, i < 1 → (w.alloc (.cells #[.int .i64 x] 3)).cell? ((⟨w.heap.size, 0, none⟩ : Addr).add i) = some (.int .i64 (([x] : List Int).getD i 0)) := fun i hi => by
  obtain rfl : i = 0 := by omega
  rw [Addr.add_lit, World.cell?_alloc_at _ _ _ _ (by simp)]; rfl

/-- Behind Named's first loop. -/
def NPost (R : (Nat → Prop) → World → Nat → H → Prop) (N : Nat) (A : Nat → Addr) (w0 : World) (p i : Nat) (ev lv hv : Value) (w : World) : Prop :=
  ∃ (hh : H) (os : List (Int × Bool)) (ho : List Nat) (pe : Option Addr) (ce : Nat) (pl : Option Addr) (cl : Nat) (ph : Option Addr) (ch : Nat), os.length = i ∧ ev = .slice pe (Tm.namesB false os).length ce ∧ lv = .slice pl (Tm.namesB true os).length cl ∧ hv = .slice ph ho.length ch ∧ Tm.Nd hh os ho ∧ Nst R N A w0 (nL pe ce (Tm.namesB false os) pl cl (Tm.namesB true os) ph ch (Tm.hands hh ho.length)) w p hh

set_option maxRecDepth 100000 in
set_option maxHeartbeats 8000000 in
theorem knamed_any (K : ProgOK R N A) (KN : NewOK R N A) (w : World) (hE : Errs N A w) (pn pb : Option Addr) (cn cb : Nat) (ns : List Int) (bs : List Bool) (pause : Int)
    (hns : 0 < ns.length → ∃ g o, pn = some ⟨g, o, none⟩ ∧ g < w.heap.size ∧ ∀ i, i < ns.length → w.cell? ⟨g, o + i, none⟩ = some (.int .i64 (ns.getD i 0)))
    (hnr : ∀ i, i < ns.length → -9223372036854775808 ≤ ns.getD i 0 ∧ ns.getD i 0 ≤ 9223372036854775807)
    (hbs : 0 < bs.length → ∃ g o, pb = some ⟨g, o, none⟩ ∧ g < w.heap.size ∧ ∀ i, i < bs.length → w.cell? ⟨g, o + i, none⟩ = some (.bool (bs.getD i false)))
    (hp1 : -9223372036854775808 ≤ pause) (hp2 : pause ≤ 9223372036854775807) :
    Calls Tryz.prog 9 #[.slice pn ns.length cn, .slice pb bs.length cb, .int .i64 pause] w fun e w' => e = .returned (.bool true) ∧ Below w.heap.size w w' := by
  have HK := hide K
  have HNs := hide hns
  have HNr := hide hnr
  have HBs := hide hbs
  have HPp := fun w' => hide (kpick_is pause 2 w' (by omega) (by omega) hp1 hp2)
  have hpk := pickN_lt pause 2 (by omega)
  generalize pickN pause 2 = pk at *
  have HBg := hide (begun_any K KN w hE)
  clear K KN hE hns hnr hbs hp1 hp2
  go_enter Tryz.func9, Tryz.ntmps9
  go_wp2_with fail
  refine HBg.out.mono ?_
  rintro e w1 ⟨p, rfl, xb⟩
  have HS1 : Hid (Nst R N A w (nL none 0 [] none 0 [] none 0 []) w1 p Tm.b4) := by
    refine ⟨xb.less (fun b hb => ?_), fun x hx => ?_, ?_⟩
    · obtain ⟨x, hx, a, ha, _⟩ := hb
      simp only [nL, List.mem_cons, List.not_mem_nil, or_false] at hx
      rcases hx with rfl | rfl | rfl <;> cases ha
    · simp only [nL, List.mem_cons, List.not_mem_nil, or_false] at hx
      rcases hx with rfl | rfl | rfl <;> exact IRow.nil _ _
    · unfold nL
      simp
  clear xb HBg
  go_wp2_with fail
  go_loopw [8, 9, 10, 11, 12, 13, 14] (fun ev lv hv iv _ _ _ w' => ∃ i : Nat, i ≤ ns.length ∧ i ≤ 12 ∧ iv = .int .i64 i ∧ NPost R N A w p i ev lv hv w') (fun _ _ _ iv _ _ _ _ => 12 - (intOf iv).toNat)
  case atStart => exact ⟨0, by omega, by omega, rfl, Tm.b4, [], [], none, 0, none, 0, none, 0, rfl, rfl, rfl, rfl, Tm.Nd.b4, HS1.out⟩
  case round =>
    obtain ⟨i, hi1, hi2, rfl, hh, os, ho, pe, ce, pl, cl, ph, ch, hos, rfl, rfl, rfl, nd, st⟩ := hrel
    have HNd := hide nd
    have HSt := hide st
    have hnb := Tm.namesB_len os
    have hol := nd.hol
    by_cases hgo : i < ns.length ∧ i < 12
    · have b1 : (i : Int) < (ns.length : Int) := by omega
      have b2 : (i : Int) < 12 := by omega
      obtain ⟨g, o, rfl, hg1, hg2⟩ := HNs.out (by omega)
      have ci : wr.cell? ⟨g, o + i, none⟩ = some (.int .i64 (ns.getD i 0)) := by rw [st.1.below.cell (by show g < _; exact hg1)]; exact hg2 i hgo.1
      obtain ⟨hr1, hr2⟩ := HNr.out i hgo.1
      generalize ns.getD i 0 = nv at *
      have HPn := fun w' => hide (kpick_is nv 1000000001 w' (by omega) (by omega) hr1 hr2)
      have hpn := pickN_lt nv 1000000001 (by omega)
      generalize pickN nv 1000000001 = x at *
      obtain ⟨M, hM⟩ := Tm.marked_exists hh
      have hex := nd.extern (by omega) M (x : Int) (by omega)
      have hcall := st.1.extern HK.out st.size hM (by rw [nd.len]; omega) (x : Int)
      rw [hex] at hcall
      have HCall := hide hcall
      have hgen := nd.gens ho.length
      obtain ⟨h', hf1, hf2, hf3⟩ := nd.let (by omega) (x : Int) (by omega)
      have hho := nd.hold (by omega) (x : Int) (by omega)
      have e1 : Tm.hands ((hh.grown [] (x : Int)).setSl 1 ho.length ⟨(hh.sl 1 ho.length).gen + 1, (os.length : Int) + 2, 1⟩) ho.length = Tm.hands hh ho.length := Tm.hands_same (fun j hj => by
        rw [Tm.sl_setSl (hh.grown [] (x : Int)) 1 ho.length 1 j _ (by show ho.length < (hh.t 1).length; rw [nd.tl]; omega), if_neg (fun q => by omega)]; rfl)
      have e2 : (((hh.grown [] (x : Int)).setSl 1 ho.length ⟨(hh.sl 1 ho.length).gen + 1, (os.length : Int) + 2, 1⟩).sl 1 ho.length).gen = (hh.sl 1 ho.length).gen + 1 := by
        rw [Tm.sl_setSl (hh.grown [] (x : Int)) 1 ho.length 1 ho.length _ (by show ho.length < (hh.t 1).length; rw [nd.tl]; omega), if_pos ⟨rfl, rfl⟩]
      generalize ((hh.grown [] (x : Int)).setSl 1 ho.length ⟨(hh.sl 1 ho.length).gen + 1, (os.length : Int) + 2, 1⟩) = h1 at *
      have HF1 := hide hf1
      have HF2 := hide hf2
      have HF3 := hide hf3
      have HHo := hide hho
      have HE1 := hide e1
      have HE2 := hide e2
      have hzb : 1 + 4 * (ho.length : Int) + 256 * ((hh.sl 1 ho.length).gen + 1) < 9223372036854775808 := by omega
      obtain ⟨z, ez⟩ : ∃ z, 1 + 4 * (ho.length : Int) + 256 * ((hh.sl 1 ho.length).gen + 1) = z := ⟨_, rfl⟩
      rw [ez] at HF1 HCall hzb
      have HEz := hide ez
      clear nd st hcall hex hM hf1 hf2 hf3 hho e1 e2 ez hg2 hgen
      by_cases hold : i < bs.length ∧ bs.getD i false = true
      · have b3 : (i : Int) < (bs.length : Int) := by omega
        obtain ⟨g2, o2, rfl, hg3, hg4⟩ := HBs.out (by omega)
        have HCb : Hid (∀ W, Below w.heap.size w W → W.cell? ⟨g2, o2 + i, none⟩ = some (.bool true)) := fun W hW => by rw [hW.cell (by show g2 < _; exact hg3), hg4 i hold.1, hold.2]
        clear hg4
        go_wp2_with fail
        refine ((HPn _).out).mono ?_
        rintro e w9 ⟨rfl, h9⟩
        rw [h9]
        clear h9
        go_wp2_with fail
        refine HCall.out.mono ?_
        rintro e w3 ⟨ev, rfl, he, x3, _, hk3⟩
        obtain rfl := he.nil rfl
        have st3 := HSt.out.call x3 hk3
        have HS3 := hide st3
        have cb := HCb.out w3 x3.below
        have hz3 := st3.size
        clear he x3 hk3 st3 HCall
        go_wp2_with (first
          | (at_builtin; refine wpList_append_ints _ rfl _ _ rfl w.heap.size pl cl (Tm.namesB true os) _ rfl rfl (HS3.out.row (L1 := [_]) (L2 := [_]) _) ⟨w3.heap.size, 0, none⟩ 1 1 [(x : Int)] rfl rfl (one_new w3 _) (by omega) (by simp; omega) ?_)
          | fail)
        intro p4 c4 w4 hr4 hg4 hn4 hl4
        have st4 := HS3.out.app (L1 := [_]) (L2 := [_]) HK.out.ok _ hr4 hg4 hl4
        have HS4 := hide st4
        have hz4 := st4.size
        have hlh := Tm.hands_len hh ho.length
        clear hr4 hg4 hn4 hl4 st4
        go_wp2_with (first
          | (at_builtin; refine wpList_append_ints _ rfl _ _ rfl w.heap.size ph ch (Tm.hands hh ho.length) ho.length hlh.symm rfl (HS4.out.row (L1 := [_, _]) (L2 := []) _) ⟨w4.heap.size, 0, none⟩ 1 1 [z] rfl rfl (one_new w4 _) (by omega) (by simp; omega) ?_)
          | fail)
        intro p5 c5 w5 hr5 hg5 hn5 hl5
        have st5 := HS4.out.app (L1 := [_, _]) (L2 := []) HK.out.ok _ hr5 hg5 hl5
        have HS5 := hide st5
        clear hr5 hg5 hn5 hl5 st5
        go_wp2_with fail
        go_roundw
        case rel =>
          have q1 : Tm.namesB false (os ++ [((x : Int), true)]) = Tm.namesB false os := by rw [Tm.namesB_snoc, if_neg (by simp), List.append_nil]
          have q2 : Tm.namesB true (os ++ [((x : Int), true)]) = Tm.namesB true os ++ [(x : Int)] := by rw [Tm.namesB_snoc, if_pos rfl]
          have q3 : Tm.hands h1 (ho ++ [os.length]).length = Tm.hands hh ho.length ++ [z] := by
            rw [show (ho ++ [os.length]).length = ho.length + 1 from by simp, Tm.hands_succ, HE1.out, HE2.out, HEz.out]
          exact ⟨i + 1, by omega, by omega, by go_num, h1, os ++ [((x : Int), true)], ho ++ [os.length], pe, ce, p4, c4, p5, c5, by simp [hos], by rw [q1], by rw [q2]; simp, by simp, HHo.out, by rw [q1, q2, q3]; exact HS5.out⟩
        case measure => simp [intOf]; omega
      · have hb3 : ¬ (i : Int) < (bs.length : Int) ∨ ((i : Int) < (bs.length : Int) ∧ ∃ g2 o2, pb = some ⟨g2, o2, none⟩ ∧ Hid (∀ W, Below w.heap.size w W → W.cell? ⟨g2, o2 + i, none⟩ = some (.bool false))) := by
          by_cases q : i < bs.length
          · obtain ⟨g2, o2, e, hg3, hg4⟩ := HBs.out (by omega)
            refine Or.inr ⟨by omega, g2, o2, e, fun W hW => ?_⟩
            rw [hW.cell (by show g2 < _; exact hg3), hg4 i q]
            cases hb : bs.getD i false
            · rfl
            · exact absurd ⟨q, hb⟩ hold
          · exact Or.inl (by omega)
        clear hold
        rcases hb3 with b3 | ⟨b3, g2, o2, rfl, HCb⟩
        · go_wp2_with fail
          refine ((HPn _).out).mono ?_
          rintro e w9 ⟨rfl, h9⟩
          rw [h9]
          clear h9
          go_wp2_with fail
          refine HCall.out.mono ?_
          rintro e w3 ⟨ev, rfl, he, x3, _, hk3⟩
          obtain rfl := he.nil rfl
          have st3 := HSt.out.call x3 hk3
          have HS3 := hide st3
          have hz3 := st3.size
          clear he x3 hk3 st3 HCall
          go_wp2_with (first
            | (at_builtin; refine wpList_append_ints _ rfl _ _ rfl w.heap.size pe ce (Tm.namesB false os) _ rfl rfl (HS3.out.row (L1 := []) (L2 := [_, _]) _) ⟨w3.heap.size, 0, none⟩ 1 1 [(x : Int)] rfl rfl (one_new w3 _) (by omega) (by simp; omega) ?_)
            | fail)
          intro p4 c4 w4 hr4 hg4 hn4 hl4
          have st4 := HS3.out.app (L1 := []) (L2 := [_, _]) HK.out.ok _ hr4 hg4 hl4
          have HS4 := hide st4
          have hfr := st4.1.free HK.out st4.size z hzb
          rw [HF1.out] at hfr
          have HFr := hide hfr
          clear hr4 hg4 hn4 hl4 st4 hfr
          go_wp2_with fail
          refine HFr.out.mono ?_
          rintro e w5 ⟨ev, rfl, he, x5, _, hk5⟩
          obtain rfl := he.nil rfl
          have HS5 := hide (HS4.out.call x5 hk5)
          clear he x5 hk5 HFr
          go_wp2_with fail
          go_roundw
          case rel =>
            have q1 : Tm.namesB false (os ++ [((x : Int), false)]) = Tm.namesB false os ++ [(x : Int)] := by rw [Tm.namesB_snoc, if_pos rfl]
            have q2 : Tm.namesB true (os ++ [((x : Int), false)]) = Tm.namesB true os := by rw [Tm.namesB_snoc, if_neg (by simp), List.append_nil]
            have q3 : Tm.hands h' ho.length = Tm.hands hh ho.length := Tm.hands_same HF3.out
            exact ⟨i + 1, by omega, by omega, by go_num, h', os ++ [((x : Int), false)], ho, p4, c4, pl, cl, ph, ch, by simp [hos], by rw [q1]; simp, by rw [q2], rfl, HF2.out, by rw [q1, q2, q3]; exact HS5.out⟩
          case measure => simp [intOf]; omega
        · go_wp2_with fail
          refine ((HPn _).out).mono ?_
          rintro e w9 ⟨rfl, h9⟩
          rw [h9]
          clear h9
          go_wp2_with fail
          refine HCall.out.mono ?_
          rintro e w3 ⟨ev, rfl, he, x3, _, hk3⟩
          obtain rfl := he.nil rfl
          have st3 := HSt.out.call x3 hk3
          have HS3 := hide st3
          have cb := HCb.out w3 x3.below
          have hz3 := st3.size
          clear he x3 hk3 st3 HCall
          go_wp2_with (first
            | (at_builtin; refine wpList_append_ints _ rfl _ _ rfl w.heap.size pe ce (Tm.namesB false os) _ rfl rfl (HS3.out.row (L1 := []) (L2 := [_, _]) _) ⟨w3.heap.size, 0, none⟩ 1 1 [(x : Int)] rfl rfl (one_new w3 _) (by omega) (by simp; omega) ?_)
            | fail)
          intro p4 c4 w4 hr4 hg4 hn4 hl4
          have st4 := HS3.out.app (L1 := []) (L2 := [_, _]) HK.out.ok _ hr4 hg4 hl4
          have HS4 := hide st4
          have hfr := st4.1.free HK.out st4.size z hzb
          rw [HF1.out] at hfr
          have HFr := hide hfr
          clear hr4 hg4 hn4 hl4 st4 hfr
          go_wp2_with fail
          refine HFr.out.mono ?_
          rintro e w5 ⟨ev, rfl, he, x5, _, hk5⟩
          obtain rfl := he.nil rfl
          have HS5 := hide (HS4.out.call x5 hk5)
          clear he x5 hk5 HFr
          go_wp2_with fail
          go_roundw
          case rel =>
            have q1 : Tm.namesB false (os ++ [((x : Int), false)]) = Tm.namesB false os ++ [(x : Int)] := by rw [Tm.namesB_snoc, if_pos rfl]
            have q2 : Tm.namesB true (os ++ [((x : Int), false)]) = Tm.namesB true os := by rw [Tm.namesB_snoc, if_neg (by simp), List.append_nil]
            have q3 : Tm.hands h' ho.length = Tm.hands hh ho.length := Tm.hands_same HF3.out
            exact ⟨i + 1, by omega, by omega, by go_num, h', os ++ [((x : Int), false)], ho, p4, c4, pl, cl, ph, ch, by simp [hos], by rw [q1]; simp, by rw [q2], rfl, HF2.out, by rw [q1, q2, q3]; exact HS5.out⟩
          case measure => simp [intOf]; omega
    · have hif : ¬ (i : Int) < (ns.length : Int) ∨ ((i : Int) < (ns.length : Int) ∧ ¬ (i : Int) < 12) := by omega
      have hlh := Tm.hands_len hh ho.length
      have hsl : ∀ M k j, (hh.told.collTo M hh.told.l.length).sl k j = hh.sl k j := fun M k j => by
        unfold H.sl; rw [(Tm.collTo_same hh.told M hh.told.l.length).1]; rfl
      have HSl := hide hsl
      have hen := st.1.ended HK.out st.size nd.toldOK
      rw [nd.ended] at hen
      have HEn := hide hen
      have HN2 := hide nd.told
      have hcm : os.length ≤ 12 := nd.few
      clear nd st hen hsl
      generalize hh.told = h2 at *
      rcases hif with b1 | ⟨b1, b2⟩
      all_goals
        go_wp2_with fail
        refine HEn.out.mono ?_
        rintro e w2 ⟨q2, c2, rfl, _, ⟨_, x2⟩, _, hk2⟩
        obtain ⟨M, hM⟩ := Tm.marked_exists h2
        have st2 : Nst R N A w (nL pe ce (Tm.namesB false os) pl cl (Tm.namesB true os) ph ch (Tm.hands hh ho.length)) w2 p h2 := HSt.out.call (x2.less (fun b hb => Or.inl hb)) hk2
        have hco := st2.1.collect HK.out st2.size hM
        have HS2 := hide st2
        have HCo := hide hco
        have ne3 := HN2.out.coll hM
        have HT3 : Hid (h2.collTo M h2.l.length).toldOK := Tm.collTo_told HN2.out.toldOK M _ (Nat.le_refl _)
        have HNe := hide ne3
        have hsl := HSl.out M
        have HSl3 := hide hsl
        clear x2 hk2 st2 hco ne3 hM HEn HSl hsl
        generalize h2.collTo M h2.l.length = h3 at *
        generalize h2.collNum M h2.l.length = cnum at *
        go_wp2_with fail
        refine HCo.out.mono ?_
        rintro e w3 ⟨rfl, x3, _, hk3⟩
        have st3 := HS2.out.call x3 hk3
        have HS3 := hide st3
        have hen3 := st3.1.ended HK.out st3.size HT3.out
        rw [HNe.out.ended] at hen3
        have HEn3 := hide hen3
        have HFe := hide (HNe.out.fewO HT3.out)
        clear x3 hk3 st3 hen3 HCo HS2
        go_wp2_with fail
        refine ((HPp _).out).mono ?_
        rintro e w9 ⟨rfl, h9⟩
        rw [h9]
        clear h9
        by_cases hp0 : pk = 0
        · have bp : (pk : Int) = 0 := by omega
          go_wp2_with fail
          refine HEn3.out.mono ?_
          rintro e w4 ⟨q4, c4, rfl, sn4, ⟨_, x4⟩, _, hk4⟩
          have st4 : Nst R N A w (nL pe ce (Tm.namesB false os) pl cl (Tm.namesB true os) ph ch (Tm.hands hh ho.length)) w4 p h3.told := HS3.out.call (x4.less (fun b hb => Or.inl hb)) hk4
          have HS4 := hide st4
          have HAl := hide (alike_same w4 q4 pe c4 ce (Tm.namesB false os) (by omega) sn4 (st4.2.row ⟨pe, ce, Tm.namesB false os⟩ (by simp [nL])).seen)
          clear sn4 x4 hk4 st4 HEn3
          go_wp2_with fail
          refine HAl.out.mono ?_
          rintro e w5 ⟨rfl, hb5, _⟩
          have st5 := HS4.out.dn HK.out.ok hb5
          have HS5 : Hid (Nst R N A w (nL none 0 [] pl cl (Tm.namesB true os) ph ch (Tm.hands hh ho.length)) w5 p h3.told) := by
            refine ⟨st5.1.less (fun b hb => ?_), fun x hx => ?_, ?_⟩
            · obtain ⟨x, hx, a, ha, e⟩ := hb
              simp only [nL, List.mem_cons, List.not_mem_nil, or_false] at hx
              rcases hx with rfl | rfl | rfl
              · cases ha
              · exact ⟨_, by simp [nL], a, ha, e⟩
              · exact ⟨_, by simp [nL], a, ha, e⟩
            · simp only [nL, List.mem_cons, List.not_mem_nil, or_false] at hx
              rcases hx with rfl | rfl | rfl
              · exact IRow.nil _ _
              · exact st5.2.row _ (by simp [nL])
              · exact st5.2.row _ (by simp [nL])
            · have h9 := st5.2.apart
              unfold nL at h9 ⊢
              simp only [List.pairwise_cons] at h9 ⊢
              exact ⟨(fun _ _ _ _ ha => by cases ha), h9.2⟩
          have HN5 := hide HNe.out.told
          have HF5 := hide (Tm.few_nil HFe.out)
          have HSl5 : Hid (∀ k j, h3.told.sl k j = hh.sl k j) := fun k j => HSl3.out k j
          clear hb5 st5 HS4 HAl HS3 HNe HFe HSl3 HT3
          generalize h3.told = h5 at *
          go_wp2_with fail
          go_loopw [18, 19] (fun fv _ w' => ∃ (f : Nat) (h6 : H), fv = .int .i64 f ∧ Tm.Ne h6 os ho f ([] : List Int) ∧ (∀ j, f ≤ j → h6.sl 1 j = hh.sl 1 j) ∧ Nst R N A w (nL (none : Option Addr) 0 ([] : List Int) pl cl (Tm.namesB true os) ph ch (Tm.hands hh ho.length)) w' p h6) (fun fv _ _ => ho.length - (intOf fv).toNat)
          case atStart => exact ⟨0, h5, rfl, HN5.out, fun j _ => HSl5.out 1 j, HS5.out⟩
          case round =>
            obtain ⟨f, h6, rfl, ne6, sl6, st6⟩ := hrel
            have HN6 := hide ne6
            have HS6 := hide st6
            have HL6 := hide sl6
            have hfl := ne6.fl
            by_cases hf : f < ho.length
            · have bf : (f : Int) < (ho.length : Int) := by omega
              obtain ⟨g, eg, _, hc⟩ := (st6.2.row ⟨ph, ch, Tm.hands hh ho.length⟩ (by simp [nL])).seen (by simp only [hlh]; omega)
              simp only at eg
              subst eg
              have cf : wr.cell? ⟨g, f, none⟩ = some (.int .i64 ((Tm.hands hh ho.length).getD f 0)) := hc f (by simp only [hlh]; omega)
              rw [Tm.hands_at _ _ _ hf, ← sl6 f (Nat.le_refl _)] at cf
              have hgn := ne6.gens f
              obtain ⟨h8, ef, ne8, sl8⟩ := ne6.free hf
              have hzb : 1 + 4 * (f : Int) + 256 * (h6.sl 1 f).gen < 9223372036854775808 := by omega
              generalize 1 + 4 * (f : Int) + 256 * (h6.sl 1 f).gen = z at *
              have hfr := st6.1.free HK.out st6.size z hzb
              rw [ef] at hfr
              have HFr := hide hfr
              have HN8 := hide ne8
              have HL8 : Hid (∀ j, f + 1 ≤ j → h8.sl 1 j = hh.sl 1 j) := fun j hj => by rw [sl8 j (by omega)]; exact HL6.out j (by omega)
              clear ne6 sl6 st6 hc hfr ef ne8 sl8 hgn
              go_wp2_with fail
              refine HFr.out.mono ?_
              rintro e w8 ⟨ev, rfl, he, x8, _, hk8⟩
              obtain rfl := he.nil rfl
              have HS8 := hide (HS6.out.call x8 hk8)
              clear he x8 hk8 HFr
              go_wp2_with fail
              go_roundw
              case rel => exact ⟨f + 1, h8, by go_num, HN8.out, HL8.out, HS8.out⟩
              case measure => simp [intOf]; omega
            · have bf : ¬ (f : Int) < (ho.length : Int) := by omega
              obtain rfl : f = ho.length := by omega
              obtain ⟨M6, hM6⟩ := Tm.marked_exists h6
              obtain ⟨hn7, he7⟩ := ne6.coll hM6
              have hco := st6.1.collect HK.out st6.size hM6
              rw [hn7] at hco
              have HC7 := hide hco
              have HE7 := hide he7
              have HT7 : Hid (h6.collTo M6 h6.l.length).toldOK := Tm.collTo_told (ne6.toldOK HF5.out) M6 _ (Nat.le_refl _)
              clear ne6 sl6 st6 hn7 he7 hco hM6
              generalize h6.collTo M6 h6.l.length = h7 at *
              go_wp2_with fail
              refine HC7.out.mono ?_
              rintro e w7 ⟨rfl, x7, _, hk7⟩
              have st7 := HS6.out.call x7 hk7
              have HS7 := hide st7
              have hen8 := st7.1.ended HK.out st7.size HT7.out
              rw [HE7.out] at hen8
              have HEn8 := hide hen8
              clear x7 hk7 st7 hen8 HC7
              go_wp2_with fail
              refine HEn8.out.mono ?_
              rintro e w8 ⟨q8, c8, rfl, sn8, ⟨hq8, x8⟩, hz8, hk8⟩
              have hen9 := x8.ended HK.out (x8.size (Nat.le_refl _)) (toldOK_of HT7.out (Nat.zero_le _) rfl rfl)
              rw [show h7.told.ended = [] from rfl] at hen9
              have HEn9 := hide hen9
              have HL8 := hide (HS7.out.2.kept hk8)
              have HSn8 := hide sn8
              have HQ8 := hide hq8
              clear sn8 hq8 x8 hz8 hk8 hen9 HEn8
              go_wp2_with fail
              refine HEn9.out.mono ?_
              rintro e w9 ⟨q9, c9, rfl, _, ⟨_, x9⟩, hz9, hk9⟩
              have ls9 := HL8.out.kept (fun b hb => hk9 b (Or.inl hb))
              have sn9 : Seen w9 q8 (([] : List Int) ++ Tm.namesB true os) := HSn8.out.kept (fun h0 g e _ => hk9 g (Or.inr ⟨h0, _, e, rfl⟩)) hz9
              have be9 := x9.below
              have re := ls9.row ⟨(none : Option Addr), 0, ([] : List Int)⟩ (by simp [nL])
              have rl := ls9.row ⟨pl, cl, Tm.namesB true os⟩ (by simp [nL])
              have hown : ∀ a, (none : Option Addr) = some a → ownL (nL (none : Option Addr) 0 ([] : List Int) pl cl (Tm.namesB true os) ph ch (Tm.hands hh ho.length)) a.block := fun a ha => ⟨⟨(none : Option Addr), 0, ([] : List Int)⟩, by simp [nL], a, ha, rfl⟩
              have HOwn := hide hown
              have HSn9 := hide sn9
              have HB9 := hide be9
              have HRe := hide re
              have hsz := be9.size
              clear x9 hz9 hk9 ls9 sn9 be9 hown HEn9
              by_cases hpl : pl = none
              · subst hpl
                obtain ⟨e1, e2⟩ := rl.bare
                simp only at e1 e2
                have HL0 : Hid ((Tm.namesB true os).length = 0) := by show _ = _; rw [e1]; rfl
                have HE0 := hide e1
                have HC0 := hide e2
                have hl9 : (Tm.namesB false os).length + (Tm.namesB true os).length ≤ 12 := by omega
                have HL9 := hide hl9
                have HAl := hide (fun n m hn hm => alike_n w9 q8 (none : Option Addr) c8 0 (([] : List Int) ++ Tm.namesB true os) n m hn hm (by have := HL9.out; simp only [List.length_append, List.length_nil]; omega) HSn9.out (by rw [HE0.out, List.append_nil]; exact re.seen))
                clear re rl e1 e2 hl9
                go_wp2_with (first
                  | (at_builtin; refine wpList_append_ints_none _ rfl _ _ rfl w.heap.size (none : Option Addr) 0 ([] : List Int) _ rfl rfl HRe.out _ _ HL0.out HC0.out rfl ?_)
                  | fail)
                go_wp2_with fail
                refine Calls.mono (HAl.out _ _ ?_ ?_) ?_
                · simp
                · simp [HE0.out]
                rintro e w10 ⟨rfl, hb10, _⟩
                have HB10 : Hid (Below w.heap.size w w10) := HB9.out.trans (hb10.mono hsz)
                clear hb10 HAl
                go_wp2_with fail
                go_ret
                exact ⟨by rfl, HB10.out⟩
              · obtain ⟨gl, el, _, _, _, hcl, _⟩ := rl.at (Or.inr hpl)
                simp only at el hcl
                subst el
                clear rl re
                have HCl := hide hcl
                go_wp2_with (first
                  | (at_builtin; go_loud (refine wpList_append_ints _ rfl _ _ rfl w.heap.size (none : Option Addr) 0 ([] : List Int) _ rfl rfl HRe.out ⟨gl, 0, none⟩ (Tm.namesB true os).length cl (Tm.namesB true os) rfl rfl (fun i hi => by rw [Addr.add_lit, Nat.zero_add]; exact HCl.out i hi) (by first | omega | (simp only [List.length_nil]; omega)) hsz ?_))
                  | fail)
                intro p10 c10 w10 hr10 hg10 hl10
                have ap : AppL w9 w10 (none : Option Addr) 0 0 p10 := ⟨hg10, fun a' h => Or.inr (hl10 a' h)⟩
                have sn10 : Seen w10 q8 (([] : List Int) ++ Tm.namesB true os) := HSn9.out.kept (fun h0 g e hg => ap.off g hg (fun a ha q => (HQ8.out ⟨g, 0, none⟩ e h0).2 (by have := HOwn.out a ha; rw [q] at this; exact this))) hg10.size
                have HB10 : Hid (Below w.heap.size w w10) := below_own HB9.out (fun a ha => (HRe.out.lt ha).1) hg10
                have HAl := hide (fun n m hn hm => alike_n w10 q8 p10 c8 c10 (([] : List Int) ++ Tm.namesB true os) n m hn hm (by simp only [List.length_append, List.length_nil]; omega) sn10 hr10.seen)
                have hz10 := HB10.out.size
                clear hr10 hg10 hl10 ap sn10
                go_wp2_with fail
                refine Calls.mono (HAl.out _ _ ?_ ?_) ?_
                · simp
                · simp
                rintro e w11 ⟨rfl, hb11, _⟩
                have HB11 : Hid (Below w.heap.size w w11) := HB10.out.trans (hb11.mono hz10)
                clear hb11 HAl
                go_wp2_with fail
                go_ret
                exact ⟨by rfl, HB11.out⟩
        · obtain rfl : pk = 1 := by omega
          go_wp2_with fail
          have HN5 := hide HNe.out
          have HF5 := hide HFe.out
          have HSl5 := hide HSl3.out
          have HS5 := hide HS3.out
          clear HNe HFe HSl3 HT3 HS3 HEn3
          go_loopw [18, 19] (fun fv _ w' => ∃ (f : Nat) (h6 : H), fv = .int .i64 f ∧ Tm.Ne h6 os ho f (Tm.namesB false os) ∧ (∀ j, f ≤ j → h6.sl 1 j = hh.sl 1 j) ∧ Nst R N A w (nL pe ce (Tm.namesB false os) pl cl (Tm.namesB true os) ph ch (Tm.hands hh ho.length)) w' p h6) (fun fv _ _ => ho.length - (intOf fv).toNat)
          case atStart => exact ⟨0, h3, rfl, HN5.out, fun j _ => HSl5.out 1 j, HS5.out⟩
          case round =>
            obtain ⟨f, h6, rfl, ne6, sl6, st6⟩ := hrel
            have HN6 := hide ne6
            have HS6 := hide st6
            have HL6 := hide sl6
            have hfl := ne6.fl
            by_cases hf : f < ho.length
            · have bf : (f : Int) < (ho.length : Int) := by omega
              obtain ⟨g, eg, _, hc⟩ := (st6.2.row ⟨ph, ch, Tm.hands hh ho.length⟩ (by simp [nL])).seen (by simp only [hlh]; omega)
              simp only at eg
              subst eg
              have cf : wr.cell? ⟨g, f, none⟩ = some (.int .i64 ((Tm.hands hh ho.length).getD f 0)) := hc f (by simp only [hlh]; omega)
              rw [Tm.hands_at _ _ _ hf, ← sl6 f (Nat.le_refl _)] at cf
              have hgn := ne6.gens f
              obtain ⟨h8, ef, ne8, sl8⟩ := ne6.free hf
              have hzb : 1 + 4 * (f : Int) + 256 * (h6.sl 1 f).gen < 9223372036854775808 := by omega
              generalize 1 + 4 * (f : Int) + 256 * (h6.sl 1 f).gen = z at *
              have hfr := st6.1.free HK.out st6.size z hzb
              rw [ef] at hfr
              have HFr := hide hfr
              have HN8 := hide ne8
              have HL8 : Hid (∀ j, f + 1 ≤ j → h8.sl 1 j = hh.sl 1 j) := fun j hj => by rw [sl8 j (by omega)]; exact HL6.out j (by omega)
              clear ne6 sl6 st6 hc hfr ef ne8 sl8 hgn
              go_wp2_with fail
              refine HFr.out.mono ?_
              rintro e w8 ⟨ev, rfl, he, x8, _, hk8⟩
              obtain rfl := he.nil rfl
              have HS8 := hide (HS6.out.call x8 hk8)
              clear he x8 hk8 HFr
              go_wp2_with fail
              go_roundw
              case rel => exact ⟨f + 1, h8, by go_num, HN8.out, HL8.out, HS8.out⟩
              case measure => simp [intOf]; omega
            · have bf : ¬ (f : Int) < (ho.length : Int) := by omega
              obtain rfl : f = ho.length := by omega
              obtain ⟨M6, hM6⟩ := Tm.marked_exists h6
              obtain ⟨hn7, he7⟩ := ne6.coll hM6
              have hco := st6.1.collect HK.out st6.size hM6
              rw [hn7] at hco
              have HC7 := hide hco
              have HE7 := hide he7
              have HT7 : Hid (h6.collTo M6 h6.l.length).toldOK := Tm.collTo_told (ne6.toldOK HF5.out) M6 _ (Nat.le_refl _)
              clear ne6 sl6 st6 hn7 he7 hco hM6
              generalize h6.collTo M6 h6.l.length = h7 at *
              go_wp2_with fail
              refine HC7.out.mono ?_
              rintro e w7 ⟨rfl, x7, _, hk7⟩
              have st7 := HS6.out.call x7 hk7
              have HS7 := hide st7
              have hen8 := st7.1.ended HK.out st7.size HT7.out
              rw [HE7.out] at hen8
              have HEn8 := hide hen8
              clear x7 hk7 st7 hen8 HC7
              go_wp2_with fail
              refine HEn8.out.mono ?_
              rintro e w8 ⟨q8, c8, rfl, sn8, ⟨hq8, x8⟩, hz8, hk8⟩
              have hen9 := x8.ended HK.out (x8.size (Nat.le_refl _)) (toldOK_of HT7.out (Nat.zero_le _) rfl rfl)
              rw [show h7.told.ended = [] from rfl] at hen9
              have HEn9 := hide hen9
              have HL8 := hide (HS7.out.2.kept hk8)
              have HSn8 := hide sn8
              have HQ8 := hide hq8
              clear sn8 hq8 x8 hz8 hk8 hen9 HEn8
              go_wp2_with fail
              refine HEn9.out.mono ?_
              rintro e w9 ⟨q9, c9, rfl, _, ⟨_, x9⟩, hz9, hk9⟩
              have ls9 := HL8.out.kept (fun b hb => hk9 b (Or.inl hb))
              have sn9 : Seen w9 q8 ((Tm.namesB false os) ++ Tm.namesB true os) := HSn8.out.kept (fun h0 g e _ => hk9 g (Or.inr ⟨h0, _, e, rfl⟩)) hz9
              have be9 := x9.below
              have re := ls9.row ⟨pe, ce, (Tm.namesB false os)⟩ (by simp [nL])
              have rl := ls9.row ⟨pl, cl, Tm.namesB true os⟩ (by simp [nL])
              have hown : ∀ a, pe = some a → ownL (nL pe ce (Tm.namesB false os) pl cl (Tm.namesB true os) ph ch (Tm.hands hh ho.length)) a.block := fun a ha => ⟨⟨pe, ce, (Tm.namesB false os)⟩, by simp [nL], a, ha, rfl⟩
              have HOwn := hide hown
              have HSn9 := hide sn9
              have HB9 := hide be9
              have HRe := hide re
              have hsz := be9.size
              clear x9 hz9 hk9 ls9 sn9 be9 hown HEn9
              by_cases hpl : pl = none
              · subst hpl
                obtain ⟨e1, e2⟩ := rl.bare
                simp only at e1 e2
                have HL0 : Hid ((Tm.namesB true os).length = 0) := by show _ = _; rw [e1]; rfl
                have HE0 := hide e1
                have HC0 := hide e2
                have hl9 : (Tm.namesB false os).length + (Tm.namesB true os).length ≤ 12 := by omega
                have HL9 := hide hl9
                have HAl := hide (fun n m hn hm => alike_n w9 q8 pe c8 ce ((Tm.namesB false os) ++ Tm.namesB true os) n m hn hm (by have := HL9.out; simp only [List.length_append]; omega) HSn9.out (by rw [HE0.out, List.append_nil]; exact re.seen))
                clear re rl e1 e2 hl9
                go_wp2_with (first
                  | (at_builtin; refine wpList_append_ints_none _ rfl _ _ rfl w.heap.size pe ce (Tm.namesB false os) _ rfl rfl HRe.out _ _ HL0.out HC0.out rfl ?_)
                  | fail)
                go_wp2_with fail
                refine Calls.mono (HAl.out _ _ ?_ ?_) ?_
                · simp
                · simp [HE0.out]
                rintro e w10 ⟨rfl, hb10, _⟩
                have HB10 : Hid (Below w.heap.size w w10) := HB9.out.trans (hb10.mono hsz)
                clear hb10 HAl
                go_wp2_with fail
                go_ret
                exact ⟨by rfl, HB10.out⟩
              · obtain ⟨gl, el, _, _, _, hcl, _⟩ := rl.at (Or.inr hpl)
                simp only at el hcl
                subst el
                clear rl re
                have HCl := hide hcl
                go_wp2_with (first
                  | (at_builtin; go_loud (refine wpList_append_ints _ rfl _ _ rfl w.heap.size pe ce (Tm.namesB false os) _ rfl rfl HRe.out ⟨gl, 0, none⟩ (Tm.namesB true os).length cl (Tm.namesB true os) rfl rfl (fun i hi => by rw [Addr.add_lit, Nat.zero_add]; exact HCl.out i hi) (by first | omega | (simp only [List.length_nil]; omega)) hsz ?_))
                  | fail)
                intro p10 c10 w10 hr10 hg10 hn10 hl10
                have ap : AppL w9 w10 pe _ ce p10 := ⟨hg10, hl10⟩
                clear hn10
                have sn10 : Seen w10 q8 ((Tm.namesB false os) ++ Tm.namesB true os) := HSn9.out.kept (fun h0 g e hg => ap.off g hg (fun a ha q => (HQ8.out ⟨g, 0, none⟩ e h0).2 (by have := HOwn.out a ha; rw [q] at this; exact this))) hg10.size
                have HB10 : Hid (Below w.heap.size w w10) := below_own HB9.out (fun a ha => (HRe.out.lt ha).1) hg10
                have HAl := hide (fun n m hn hm => alike_n w10 q8 p10 c8 c10 ((Tm.namesB false os) ++ Tm.namesB true os) n m hn hm (by simp only [List.length_append]; omega) sn10 hr10.seen)
                have hz10 := HB10.out.size
                clear hr10 hg10 hl10 ap sn10
                go_wp2_with fail
                refine Calls.mono (HAl.out _ _ ?_ ?_) ?_
                · simp
                · simp
                rintro e w11 ⟨rfl, hb11, _⟩
                have HB11 : Hid (Below w.heap.size w w11) := HB10.out.trans (hb11.mono hz10)
                clear hb11 HAl
                go_wp2_with fail
                go_ret
                exact ⟨by rfl, HB11.out⟩
end
end Go.Proofs.YtcnmfljpmpgnjaaGreatDoor
