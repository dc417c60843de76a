import Derived.Test.YtcnmfljpmpgnjaaGreatDoorJ40
import Derived.Test.YtcnmfljpmpgnjaaGreatDoorJ12
import Derived.Deep.DeepCutAuto
import Derived.Deep.RegionHeld3
namespace Go.Proofs.YtcnmfljpmpgnjaaGreatDoor
namespace Tm

/-- The slot that a handle names. -/
def H.at' (h : H) (x : Int) : Sl := h.sl (x % 4).toNat (x / 4 % 64).toNat
/-- A handle that was given out. -/
def H.spelt (h : H) (x : Int) : Prop := 0 < x ∧ x % 4 ≠ 0 ∧ x / 4 % 64 < ((h.t (x % 4).toNat).length : Int) ∧ 1 ≤ x / 256 ∧ x / 256 ≤ (h.at' x).gen
/-- .. and that is good still. -/
def H.fresh (h : H) (x : Int) : Prop := (h.at' x).gen = x / 256 ∧ (h.at' x).ob ≠ 0

/-- The handles that were given out, and the good ones. -/
structure Uq (h : H) (given good : List Int) : Prop where
  spelt : ∀ x, x ∈ given → h.spelt x
  ok : ∀ x, x ∈ given → (x ∈ good ↔ h.fresh x)
  sub : ∀ x, x ∈ good → x ∈ given
  nodup : good.Nodup

theorem Uq.same {h h' : H} {given good : List Int} (u : Uq h given good) (e : h'.t = h.t) : Uq h' given good := by
  have e1 : ∀ x, h'.at' x = h.at' x := fun x => by unfold H.at' H.sl; rw [e]
  refine ⟨fun x hx => ?_, fun x hx => ?_, u.sub, u.nodup⟩
  · have := u.spelt x hx
    unfold H.spelt at *
    rw [e1, e]; exact this
  · rw [u.ok x hx]
    unfold H.fresh
    rw [e1]

theorem spell_inj {x y : Int} (h1 : x % 4 = y % 4) (h2 : x / 4 % 64 = y / 4 % 64) (h3 : x / 256 = y / 256) : x = y := by omega

theorem freeFrom_ok (l : List Sl) (i : Int) (h : 0 ≤ i) (hf : 0 ≤ freeFrom l i) : i ≤ freeFrom l i ∧ freeFrom l i < i + (l.length : Int) ∧ (l.getD (freeFrom l i - i).toNat sl0).ob = 0 ∧ (l.getD (freeFrom l i - i).toNat sl0).gen < 50 := by
  induction l generalizing i with
  | nil => simp [freeFrom] at hf
  | cons s l ih =>
    unfold freeFrom at hf ⊢
    split at hf
    · rename_i q
      rw [if_pos q]
      simp only [List.length_cons]
      refine ⟨by omega, by omega, ?_, ?_⟩
      · rw [show (i - i).toNat = 0 from by omega]; exact q.1
      · rw [show (i - i).toNat = 0 from by omega]; exact q.2
    · rename_i q
      rw [if_neg q]
      obtain ⟨a, b, c, d⟩ := ih (i + 1) (by omega) hf
      simp only [List.length_cons]
      refine ⟨by omega, by omega, ?_, ?_⟩
      · rw [show (freeFrom l (i + 1) - i).toNat = (freeFrom l (i + 1) - (i + 1)).toNat + 1 from by omega]; exact c
      · rw [show (freeFrom l (i + 1) - i).toNat = (freeFrom l (i + 1) - (i + 1)).toNat + 1 from by omega]; exact d

theorem free_ok (h : H) (k : Nat) (hf : 0 ≤ h.free k) : h.free k < ((h.t k).length : Int) ∧ (h.sl k (h.free k).toNat).ob = 0 ∧ (h.sl k (h.free k).toNat).gen < 50 := by
  have := freeFrom_ok (h.t k) 0 (Int.le_refl _) hf
  unfold H.free H.sl at *
  rw [Int.sub_zero] at this
  exact ⟨by omega, this.2.2.1, this.2.2.2⟩

/-- One handle more. -/
theorem Uq.take {h : H} {given good : List Int} (u : Uq h given good) (k : Nat) (ht : (h.t k).length ≤ 16) (hg0 : ∀ i, i < (h.t k).length → 0 ≤ (h.sl k i).gen) (hk : 1 ≤ k ∧ k ≤ 3) (n : Int) (hn : n ≠ 0) (hf : 0 ≤ h.free k) :
    (h.take k n).1 ∉ given ∧ Uq (h.take k n).2 (given ++ [(h.take k n).1]) (good ++ [(h.take k n).1]) ∧ 0 < (h.take k n).1 ∧ (h.take k n).1 < 20000 := by
  obtain ⟨f1, f2, f3⟩ := free_ok h k hf
  have hs := hg0 (h.free k).toNat (by omega)
  obtain ⟨f, ef⟩ : ∃ f, (h.free k).toNat = f := ⟨_, rfl⟩
  have ef' : h.free k = (f : Int) := by omega
  unfold H.take
  rw [ef] at f2 f3 hs ⊢
  rw [ef'] at f1 ⊢
  obtain ⟨gn, eg⟩ : ∃ gn, (h.sl k f).gen = gn := ⟨_, rfl⟩
  rw [eg] at f3 hs ⊢
  simp only
  obtain ⟨x, ex⟩ : ∃ x, (k : Int) + 4 * (f : Int) + 256 * (gn + 1) = x := ⟨_, rfl⟩
  rw [ex]
  have x1 : x % 4 = (k : Int) := by omega
  have x2 : x / 4 % 64 = (f : Int) := by omega
  have x3 : x / 256 = gn + 1 := by omega
  have hlt : f < (h.t k).length := by omega
  have hat : h.at' x = h.sl k f := by unfold H.at'; rw [x1, x2]; rfl
  have hnot : x ∉ given := fun q => by
    have := (u.spelt x q).2.2.2.2
    rw [hat, x3, eg] at this; omega
  have hsl : ∀ k' i', (h.setSl k f ⟨gn + 1, n, h.frames⟩).sl k' i' = if k' = k ∧ i' = f then ⟨gn + 1, n, h.frames⟩ else h.sl k' i' := fun k' i' => sl_setSl h k f k' i' _ hlt
  have hx' : (h.setSl k f ⟨gn + 1, n, h.frames⟩).at' x = ⟨gn + 1, n, h.frames⟩ := by unfold H.at'; rw [x1, x2, hsl, if_pos ⟨rfl, rfl⟩]
  have hy' : ∀ y, y ∈ given → (h.setSl k f ⟨gn + 1, n, h.frames⟩).at' y = h.at' y ∨ (h.at' y = h.sl k f ∧ (h.setSl k f ⟨gn + 1, n, h.frames⟩).at' y = ⟨gn + 1, n, h.frames⟩) := fun y _ => by
    unfold H.at'
    rw [hsl]
    split
    · rename_i q; right; rw [q.1, q.2]; exact ⟨rfl, rfl⟩
    · left; rfl
  refine ⟨hnot, ⟨fun y hy => ?_, fun y hy => ?_, fun y hy => ?_, ?_⟩, by omega, by omega⟩
  · rcases List.mem_append.1 hy with hy | hy
    · have h1 := u.spelt y hy
      unfold H.spelt at *
      rw [len_setSl]
      refine ⟨h1.1, h1.2.1, h1.2.2.1, h1.2.2.2.1, ?_⟩
      have h2 := h1.2.2.2.2
      rcases hy' y hy with q | ⟨q1, q2⟩
      · rw [q]; exact h2
      · rw [q2]
        rw [q1, eg] at h2
        simp only; omega
    · obtain rfl : y = x := by simpa using hy
      unfold H.spelt
      rw [len_setSl, hx', x1, x2, x3]
      simp only [Int.toNat_natCast]
      omega
  · rcases List.mem_append.1 hy with hy | hy
    · have hyx : y ≠ x := fun e => hnot (e ▸ hy)
      have h0 := u.ok y hy
      have h1 := u.spelt y hy
      simp only [List.mem_append, List.mem_singleton, hyx, or_false]
      rw [h0]
      unfold H.fresh
      rcases hy' y hy with q | ⟨q1, q2⟩
      · rw [q]
      · rw [q1, q2, f2]
        have h2 := h1.2.2.2.2
        rw [q1, eg] at h2
        simp only [ne_eq, not_true_eq_false, and_false, false_iff]
        intro q
        omega
    · obtain rfl : y = x := by simpa using hy
      simp only [List.mem_append, List.mem_singleton, or_true, true_iff]
      unfold H.fresh
      rw [hx', x3]
      exact ⟨rfl, hn⟩
  · rcases List.mem_append.1 hy with hy | hy
    · exact List.mem_append_left _ (u.sub y hy)
    · exact List.mem_append_right _ hy
  · rw [List.nodup_append]
    refine ⟨u.nodup, by simp, fun a ha b hb e => ?_⟩
    obtain rfl : b = x := by simpa using hb
    exact hnot (e ▸ u.sub a ha)

/-- A good handle is one of the heap's. -/
theorem Uq.of {h : H} {given good : List Int} (u : Uq h given good) (g : Good h) {x : Int} (hx : x ∈ given) : h.of x = if x ∈ good then ((h.at' x).ob, fine) else (0, ⟨4, x⟩) := by
  have h1 := u.spelt x hx
  have h2 := u.ok x hx
  unfold H.spelt at h1
  have hk := g.slots (x % 4).toNat (x / 4 % 64).toNat (by omega)
  have hs : h.slot x = x / 4 % 64 := by
    unfold H.slot
    unfold H.at' at h1
    rw [if_neg (by omega), if_pos (by omega)]
  unfold H.of
  rw [if_neg (by omega), hs, if_neg (by omega)]
  unfold H.fresh H.at' at h2
  by_cases q : x ∈ good
  · have h3 := h2.1 q
    rw [if_pos q, if_neg (by rintro (a | a); exact h3.2 a; exact a h3.1)]
    rfl
  · rw [if_neg q, if_pos]
    by_cases a : (h.sl (x % 4).toNat (x / 4 % 64).toNat).ob = 0
    · exact Or.inl a
    · exact Or.inr (fun b => q (h2.2 ⟨b, a⟩))

/-- Asked of itself. -/
theorem Uq.self {h : H} {given good : List Int} (u : Uq h given good) (g : Good h) {x : Int} (hx : x ∈ given) :
    (x ∈ good ∧ (h.same x x = (true, fine) ∨ (h.same x x = (false, ⟨5, x⟩) ∧ x % 4 = 3))) ∨ (x ∉ good ∧ h.same x x = (false, ⟨4, x⟩)) := by
  have h1 := u.spelt x hx
  have hof := u.of g hx
  have hp : h.perhaps x = h.object x := by unfold H.perhaps; rw [if_neg (by have := h1.1; omega)]
  by_cases q : x ∈ good
  · rw [if_pos q] at hof
    left
    refine ⟨q, ?_⟩
    have h3 := (u.ok x hx).1 q
    by_cases c : (h.ob (h.at' x).ob).gone = true
    · right
      have e : h.object x = (0, ⟨5, x⟩) := by unfold H.object; rw [hof, if_pos ⟨rfl, c⟩]
      refine ⟨by unfold H.same; rw [hp, e, if_pos (by simp)], ?_⟩
      unfold H.spelt at h1
      have hne : ¬ ((x % 4).toNat = 1 ∨ (x % 4).toNat = 2) := fun k12 => by
        have := g.held (x % 4).toNat (x / 4 % 64).toNat k12 (by omega) h3.2
        have c' : (h.ob (h.sl (x % 4).toNat (x / 4 % 64).toNat).ob).gone = true := c
        rw [this] at c'; cases c'
      omega
    · left
      have e : h.object x = ((h.at' x).ob, fine) := by unfold H.object; rw [hof, if_neg (fun a => c a.2)]
      unfold H.same
      rw [hp, e, if_neg (by simp [fine]), if_neg (by simp [fine])]
      simp
  · rw [if_neg q] at hof
    right
    have e : h.object x = (0, ⟨4, x⟩) := by unfold H.object; rw [hof, if_neg (by simp)]
    exact ⟨q, by unfold H.same; rw [hp, e, if_pos (by simp)]⟩

/-- What a move leaves: a handle more, or none. -/
def Mid (given good : List Int) (h' : H) (wv : Int) (y : Why) (good' : List Int) : Prop :=
  (wv = 0 ∧ (y.reason = 0 ∨ y.reason = 5 ∨ y.reason = 7 ∨ y.reason = 8) ∧ Uq h' given good' ∧ good'.length ≤ good.length) ∨ (0 < wv ∧ wv < 20000 ∧ y = fine ∧ good' = good ∧ wv ∉ given ∧ Uq h' (given ++ [wv]) (good ++ [wv]))

theorem Uq.make {h : H} {given good : List Int} (u : Uq h given good) (g : Good h) (hc : 0 < h.classes.length) (M : List Bool) :
    Mid given good (h.ofClass M 0).2 (h.ofClass M 0).1.1 (h.ofClass M 0).1.2 good ∧ (h.ofClass M 0).2.l.length ≤ h.l.length + 1 ∧ (h.ofClass M 0).2.classes = h.classes := by
  have hi : h.isClass 0 = true := by unfold H.isClass inR; simp; omega
  unfold H.ofClass
  rw [if_pos hi]
  generalize h.kindsOf 0 = ks
  obtain ⟨r1, r2, r3⟩ := roomy_same h M ks
  have hrc : (h.roomy M ks).classes = h.classes := by unfold H.roomy; split; exact (collTo_same h M _).2.2.2; rfl
  unfold H.makeBy
  split
  · exact ⟨Or.inl ⟨rfl, Or.inr (Or.inr (Or.inl rfl)), u, Nat.le_refl _⟩, Nat.le_succ _, rfl⟩
  · rename_i hf
    split
    · exact ⟨Or.inl ⟨rfl, Or.inr (Or.inr (Or.inr rfl)), u.same r1, Nat.le_refl _⟩, by simp only; omega, hrc⟩
    · have u2 : Uq ((h.roomy M ks).grown ks (-1)) given good := u.same r1
      have ht2 : ((h.roomy M ks).grown ks (-1)).t = h.t := r1
      have hsl : ∀ k i, ((h.roomy M ks).grown ks (-1)).sl k i = h.sl k i := fun k i => by unfold H.sl; rw [ht2]
      have hfr : ((h.roomy M ks).grown ks (-1)).free 1 = h.free 1 := by unfold H.free; rw [ht2]
      obtain ⟨a, b, c, d⟩ := u2.take 1 (by rw [ht2]; exact g.tabs 1) (fun i hi => by rw [hsl]; rw [ht2] at hi; exact (g.slots 1 i hi).2.2.1) ⟨Nat.le_refl _, by omega⟩ ((h.l.length : Int) + 1) (by omega) (by rw [hfr]; omega)
      exact ⟨Or.inr ⟨c, d, rfl, rfl, a, b⟩, by show ((h.roomy M ks).grown ks (-1)).l.length ≤ _; rw [len_grown]; omega, hrc⟩

theorem Uq.ref {h : H} {given good : List Int} (u : Uq h given good) (g : Good h) (k : Nat) (hk : 1 ≤ k ∧ k ≤ 3) {x : Int} (hx : x ∈ good) :
    Mid given good (h.ref (k : Int) x).2 (h.ref (k : Int) x).1.1 (h.ref (k : Int) x).1.2 good ∧ (h.ref (k : Int) x).2.l.length = h.l.length ∧ (h.ref (k : Int) x).2.classes = h.classes := by
  have hof := u.of g (u.sub x hx)
  rw [if_pos hx] at hof
  have h3 := (u.ok x (u.sub x hx)).1 hx
  have hin : ¬ inR (k : Int) 1 3 = false := by unfold inR; simp; omega
  unfold H.ref
  rw [if_neg hin]
  by_cases c : (h.ob (h.at' x).ob).gone = true
  · have e : h.object x = (0, ⟨5, x⟩) := by unfold H.object; rw [hof, if_pos ⟨rfl, c⟩]
    rw [e, if_pos (by simp)]
    exact ⟨Or.inl ⟨rfl, Or.inr (Or.inl rfl), u, Nat.le_refl _⟩, rfl, rfl⟩
  · have e : h.object x = ((h.at' x).ob, fine) := by unfold H.object; rw [hof, if_neg (fun a => c a.2)]
    rw [e, if_neg (by simp [fine]), Int.toNat_natCast]
    split
    · exact ⟨Or.inl ⟨rfl, Or.inr (Or.inr (Or.inl rfl)), u, Nat.le_refl _⟩, rfl, rfl⟩
    · rename_i hf
      obtain ⟨a, b, c, d⟩ := u.take k (g.tabs k) (fun i hi => (g.slots k i hi).2.2.1) hk (h.at' x).ob h3.2 (by omega)
      exact ⟨Or.inr ⟨c, d, rfl, rfl, a, b⟩, rfl, rfl⟩

theorem Uq.b4 : Uq Tm.b4 [257] [] := by
  have h1 : Tm.b4.at' 257 = ⟨1, 0, 1⟩ := by unfold H.at'; rw [b4_sl]; rfl
  refine ⟨fun x hx => ?_, fun x hx => ?_, fun x hx => by simp at hx, List.nodup_nil⟩
  · obtain rfl : x = 257 := by simpa using hx
    unfold H.spelt
    rw [h1]
    refine ⟨by omega, by omega, by decide, by omega, by decide⟩
  · obtain rfl : x = 257 := by simpa using hx
    unfold H.fresh
    rw [h1]
    simp

theorem mem_eraseIdx_nodup {l : List Int} (hn : l.Nodup) (j : Nat) (hj : j < l.length) (y : Int) : y ∈ l.eraseIdx j ↔ y ∈ l ∧ y ≠ l.getD j 0 := by
  induction l generalizing j with
  | nil => simp at hj
  | cons a l ih =>
    rw [List.nodup_cons] at hn
    cases j with
    | zero =>
      simp only [List.eraseIdx_cons_zero, List.getD_cons_zero, List.mem_cons]
      constructor
      · intro q; exact ⟨Or.inr q, fun e => hn.1 (e ▸ q)⟩
      · rintro ⟨rfl | q, e⟩
        · exact absurd rfl e
        · exact q
    | succ j =>
      simp only [List.eraseIdx_cons_succ, List.getD_cons_succ, List.mem_cons]
      have hj' : j < l.length := by simpa using hj
      rw [ih hn.2 j hj']
      constructor
      · rintro (rfl | q)
        · exact ⟨Or.inl rfl, fun e => hn.1 (e ▸ getD_mem _ _ _ hj')⟩
        · exact ⟨Or.inr q.1, q.2⟩
      · rintro ⟨rfl | q, e⟩
        · exact Or.inl rfl
        · exact Or.inr ⟨q, e⟩

/-- A good one is freed. -/
theorem Uq.free {h : H} {given good : List Int} (u : Uq h given good) (g : Good h) (j : Nat) (hj : j < good.length) :
    ∃ h', h.freed (good.getD j 0) = (fine, h') ∧ Uq h' given (good.eraseIdx j) := by
  have hx := getD_mem good 0 j hj
  have hgv := u.sub _ hx
  obtain ⟨x, ex⟩ : ∃ x, good.getD j 0 = x := ⟨_, rfl⟩
  have hmem := fun y => mem_eraseIdx_nodup u.nodup j hj y
  rw [ex] at hx hgv hmem
  rw [ex]
  have hof := u.of g hgv
  rw [if_pos hx] at hof
  have h1 := u.spelt x hgv
  have h3 := (u.ok x hgv).1 hx
  refine ⟨_, by unfold H.freed; rw [hof, if_neg (by simp [fine])], ?_⟩
  have hlt : (x / 4 % 64).toNat < (h.t (x % 4).toNat).length := by unfold H.spelt at h1; omega
  have hsl := fun k' i' => sl_setSl h (x % 4).toNat (x / 4 % 64).toNat k' i' { h.sl (x % 4).toNat (x / 4 % 64).toNat with ob := 0 } hlt
  have hy' : ∀ y, (h.setSl (x % 4).toNat (x / 4 % 64).toNat { h.sl (x % 4).toNat (x / 4 % 64).toNat with ob := 0 }).at' y = if (y % 4).toNat = (x % 4).toNat ∧ (y / 4 % 64).toNat = (x / 4 % 64).toNat then { h.at' x with ob := 0 } else h.at' y := fun y => by
    unfold H.at'; rw [hsl]
  refine ⟨fun y hy => ?_, fun y hy => ?_, fun y hy => u.sub y ((hmem y).1 hy).1, u.nodup.sublist (List.eraseIdx_sublist _ _)⟩
  · have h2 := u.spelt y hy
    unfold H.spelt at *
    rw [len_setSl, hy']
    refine ⟨h2.1, h2.2.1, h2.2.2.1, h2.2.2.2.1, ?_⟩
    split
    · rename_i q
      have : h.at' y = h.at' x := by unfold H.at'; rw [q.1, q.2]
      rw [this] at h2
      exact h2.2.2.2.2
    · exact h2.2.2.2.2
  · rw [hmem, u.ok y hy]
    have h2 := u.spelt y hy
    unfold H.spelt at h1 h2
    unfold H.fresh at h3 ⊢
    rw [hy']
    split
    · rename_i q
      have e : h.at' y = h.at' x := by unfold H.at'; rw [q.1, q.2]
      rw [e]
      simp only [ne_eq, not_true_eq_false, and_false, iff_false]
      rintro ⟨⟨a, b⟩, c⟩
      exact c (spell_inj (by omega) (by omega) (by rw [← a]; exact h3.1))
    · rename_i q
      constructor
      · exact fun a => a.1
      · exact fun a => ⟨a, fun e => q (by rw [e]; exact ⟨rfl, rfl⟩)⟩
end Tm
end Go.Proofs.YtcnmfljpmpgnjaaGreatDoor

namespace Go.Proofs.YtcnmfljpmpgnjaaGreatDoor
open Go.RowKit
open Tm (H Ob Sl Why)

set_option maxRecDepth 100000 in
set_option maxHeartbeats 2000000 in
theorem kamong_any (w : World) (p : Option Addr) (c : Nat) (l : List Int) (n : Nat) (hn : l.length = n) (hl : n ≤ 4398046511104) (x : Int) (h1 : Seen w p l) :
    Calls Tryz.prog 28 #[.slice p n c, .int .i64 x] w fun e w' => e = .returned (.bool (decide (x ∈ l))) ∧ w' = w := by
  subst hn
  have H1 := hide h1
  clear h1
  go_enter Tryz.func28, Tryz.ntmps28
  go_wp2_with fail
  go_loop [5] (fun iv => ∃ i : Nat, i ≤ l.length ∧ iv = .int .i64 i ∧ Hid (x ∉ l.take i)) (fun iv => l.length - (intOf iv).toNat)
  case atStart => exact ⟨0, by omega, rfl, by show _ ∉ _; simp⟩
  case round =>
    obtain ⟨i, hi, rfl, HX⟩ := hrel
    by_cases hlt : i < l.length
    · have bi : (i : Int) < (l.length : Int) := by omega
      obtain ⟨g1, rfl, _, k1⟩ := H1.out (by omega)
      have c1 := k1 i hlt
      have HT : Hid (l.take (i + 1) = l.take i ++ [l.getD i 0]) := Tm.take_getD l 0 i hlt
      have HM : Hid (l.getD i 0 ∈ l) := Tm.getD_mem l 0 i hlt
      clear k1 H1
      generalize l.getD i 0 = y at *
      by_cases hy : y = x
      · subst hy
        go_wp2_with fail
        go_ret
        exact ⟨ret_bool (by simp [HM.out]), rfl⟩
      · go_wp2_with fail
        go_round
        case rel => exact ⟨i + 1, by omega, by go_num, fun q => by
          rw [HT.out] at q
          rcases List.mem_append.1 q with q | q
          · exact HX.out q
          · have e : x = y := by simpa using q
            exact hy e.symm⟩
        case measure => simp [intOf]; omega
    · have bi : ¬ (i : Int) < (l.length : Int) := by omega
      have HN : Hid (x ∉ l) := by
        have := HX.out
        rw [List.take_of_length_le (by omega)] at this
        exact this
      go_wp2_with fail
      go_ret
      exact ⟨ret_bool (by simp [HN.out]), rfl⟩

set_option maxRecDepth 100000 in
set_option maxHeartbeats 2000000 in
theorem without_any (w : World) (g c : Nat) (l : List Int) (hl : l.length ≤ 4398046511104) (hlc : l.length ≤ c) (j : Nat) (hj : j < l.length) (hg : g < w.heap.size) (hc : ∀ i, i < l.length → w.cell? ⟨g, i, none⟩ = some (.int .i64 (l.getD i 0))) :
    Calls Tryz.prog 26 #[.slice (some ⟨g, 0, none⟩) l.length c, .int .i64 (j : Int)] w fun e w' => ∃ q c', e = .returned (.slice q (l.eraseIdx j).length c') ∧ IRow w.heap.size w' q c' (l.eraseIdx j) ∧ Below w.heap.size w w' := by
  have HC := hide hc
  have hle : (l.take j).length = j := by simp; omega
  have HLe := hide hle
  have hle2 : (l.drop (j + 1)).length = l.length - (j + 1) := by simp
  have HLe2 := hide hle2
  clear hc hle hle2
  go_enter Tryz.func26, Tryz.ntmps26
  go_wp2_with (first
    | (at_builtin; refine wpList_append_ints _ rfl _ _ rfl w.heap.size none 0 [] _ rfl rfl (IRow.nil _ _) ⟨g, 0, none⟩ j c (l.take j) HLe.out rfl (fun i hi => by rw [Addr.add_lit, Nat.zero_add, List.getD_eq_getElem?_getD, List.getElem?_take, if_pos hi, ← List.getD_eq_getElem?_getD]; exact HC.out i (by omega)) (by simp; omega) (Nat.le_refl _) ?_)
    | fail)
  intro p1 c1 w1 hr1 hg1 hl1
  have hr1' : IRow w.heap.size w1 p1 c1 (l.take j) := hr1
  have HR1 := hide hr1'
  have HB1 : Hid (Below w.heap.size w w1) := below_own (Below.refl _ _) (fun a ha => by cases ha) hg1
  have hz1 := HB1.out.size
  clear hr1 hr1' hg1 hl1
  have HE : Hid (l.take j ++ l.drop (j + 1) = l.eraseIdx j) := (List.eraseIdx_eq_take_drop_succ l j).symm
  have HEl : Hid ((l.eraseIdx j).length = j + (l.length - (j + 1))) := by
    show _ = _
    rw [List.length_eraseIdx, if_pos hj]; omega
  by_cases hcj : c = j + 1
  · subst hcj
    have hlj : l.length = j + 1 := by omega
    have HLj := hide hlj
    clear hlj
    go_wp2_with (first
      | (at_builtin; refine wpList_append_ints _ rfl _ _ rfl w.heap.size p1 c1 (l.take j) j HLe.out.symm rfl HR1.out ⟨g, 0, none⟩ 0 _ [] rfl rfl (fun i hi => absurd hi (Nat.not_lt_zero _)) (by have := HLe.out; omega) hz1 ?_)
      | fail)
    intro p2 c2 w2 hr2 hg2 hn2 hl2
    have HR2 := hide hr2
    have HB2 : Hid (Below w.heap.size w w2) := below_own HB1.out (fun a ha => (HR1.out.lt ha).1) hg2
    clear hr2 hg2 hn2 hl2
    go_wp2_with fail
    go_ret
    have e1 : l.drop (j + 1) = [] := List.drop_eq_nil_of_le (by have := HLj.out; omega)
    have e2 := HE.out
    rw [e1] at e2
    exact ⟨p2, c2, by rw [HEl.out, HLj.out]; simp, by rw [← e2, List.append_nil]; exact HR2.out, HB2.out⟩
  · go_wp2_with (first
      | (at_builtin; refine wpList_append_ints _ rfl _ _ rfl w.heap.size p1 c1 (l.take j) j HLe.out.symm rfl HR1.out ⟨g, j + 1, none⟩ (l.length - (j + 1)) _ (l.drop (j + 1)) HLe2.out rfl (fun i hi => by rw [Addr.add_lit, List.getD_eq_getElem?_getD, List.getElem?_drop, ← List.getD_eq_getElem?_getD]; exact (HB1.out.cell hg).trans (HC.out (j + 1 + i) (by omega))) (by have := HLe.out; omega) hz1 ?_)
      | fail)
    intro p2 c2 w2 hr2 hg2 hn2 hl2
    have HR2 := hide hr2
    have HB2 : Hid (Below w.heap.size w w2) := below_own HB1.out (fun a ha => (HR1.out.lt ha).1) hg2
    clear hr2 hg2 hn2 hl2
    go_wp2_with fail
    go_ret
    exact ⟨p2, c2, by rw [HEl.out]; rfl, by rw [← HE.out]; exact HR2.out, HB2.out⟩
end Go.Proofs.YtcnmfljpmpgnjaaGreatDoor

namespace Go.Proofs.YtcnmfljpmpgnjaaGreatDoor
open Go.RowKit
open Tm (H Ob Sl Why)

section
variable {R : (Nat → Prop) → World → Nat → H → Prop} {N : Nat} {A : Nat → Addr}

theorem Hp.good {B : Nat} {w0 w : World} {T : Nat → Prop} {p : Nat} {h : H} (RG : ∀ S w p h, R S w p h → Tm.Good h) (x : Hp R N A B w0 T w p h) : Tm.Good h := by
  obtain ⟨S, hr, _⟩ := x.at'
  exact RG _ _ _ _ hr

set_option maxRecDepth 100000 in
set_option maxHeartbeats 4000000 in
theorem ktold_any (K : ProgOK R N A) (RG : ∀ S w p h, R S w p h → Tm.Good h) {w0 w : World} {L : List RowL} {p : Nat} {h : H} (st : Nst R N A w0 L w p h) (pg pd : Option Addr) (cg cd : Nat) (given good : List Int) (hg : (⟨pg, cg, given⟩ : RowL) ∈ L) (hd : (⟨pd, cd, good⟩ : RowL) ∈ L) (u : Tm.Uq h given good) (hl1 : given.length ≤ 200) (hl2 : good.length ≤ 200) :
    Calls Tryz.prog 29 #[.pointer (some ⟨p, 0, none⟩), .slice pg given.length cg, .slice pd good.length cd] w fun e w' => e = .returned (.bool true) ∧ Nst R N A w0 L w' p h := by
  have HK := hide K
  have HU := hide u
  have HG := hide (st.1.good RG)
  have HSt := hide st
  have HLg := hide hg
  have HLd := hide hd
  clear K RG u st hg hd
  go_enter Tryz.func29, Tryz.ntmps29
  go_wp2_with fail
  go_loopw [7, 8, 9, 10, 11] (fun iv _ _ _ _ w' => ∃ i : Nat, i ≤ given.length ∧ iv = .int .i64 i ∧ Nst R N A w0 L w' p h) (fun iv _ _ _ _ _ => given.length - (intOf iv).toNat)
  case atStart => exact ⟨0, by omega, rfl, HSt.out⟩
  case round =>
    obtain ⟨i, hi, rfl, st⟩ := hrel
    have HS := hide st
    by_cases hlt : i < given.length
    · have bi : (i : Int) < (given.length : Int) := by omega
      obtain ⟨g, eg, _, hc⟩ := (st.2.row _ HLg.out).seen (by show 0 < given.length; omega)
      simp only at eg hc
      subst eg
      have ci := hc i hlt
      have hx := Tm.getD_mem given 0 i hlt
      have hsp := (HU.out.spelt _ hx).1
      have hsame := HU.out.self HG.out hx
      have HCell : Hid (∀ W, Nst R N A w0 L W p h → W.cell? ⟨g, i, none⟩ = some (.int .i64 (given.getD i 0))) := fun W hW => by
        obtain ⟨g', e', _, hc'⟩ := (hW.2.row _ HLg.out).seen (by show 0 < given.length; omega)
        simp only at e' hc'
        cases e'
        exact hc' i hlt
      have HBd : Hid (given.getD i 0 < 9223372036854775808) := by
        have h1 := HU.out.spelt _ hx
        have h2 := HG.out.slots ((given.getD i 0) % 4).toNat ((given.getD i 0) / 4 % 64).toNat (by unfold Tm.H.spelt at h1; omega)
        unfold Tm.H.spelt Tm.H.at' at h1
        show _ < _
        omega
      generalize given.getD i 0 = x at *
      have stD : Nst R N A w0 L wr.drew p h := st.dn HK.out.ok ⟨rfl, rfl, rfl, Nat.le_refl _, fun _ _ => rfl⟩
      have hcall := stD.1.same HK.out stD.size x x HBd.out HBd.out
      have HSD := hide stD
      clear stD
      clear hc hx
      rcases hsame with ⟨hin, hs | ⟨hs, hw⟩⟩ | ⟨hin, hs⟩
      · rw [hs] at hcall
        have HCall := hide hcall
        clear hcall hs st
        have din : decide (x ∈ good) = true := by simp [hin]
        have HDin := hide din
        clear din hin
        go_upto_region 4 with fail
        go_cut [8, 9] (fun sv ev wx => sv = .bool true ∧ ErrIs A wx ev Tm.fine ∧ Nst R N A w0 L wx p h)
        case first =>
          go_region_with ((go_at_call 40; refine HCall.out.mono ?_; rintro e w2 ⟨ev, rfl, he, x2, _, hk⟩))
          all_goals go_wp2_with fail
          all_goals go_meet
          all_goals exact ⟨rfl, he, HSD.out.call x2 hk⟩
        case rest =>
          obtain ⟨rfl, he, st2⟩ := hcut
          have HW := hide (why_any A wc _ _ he)
          have ewy : whyE A Tm.fine = .nilIface := rfl
          rw [ewy] at HW
          clear ewy
          obtain rfl := he.nil rfl
          have HS2 := hide st2
          have ci2 := HCell.out wc st2
          have ge3 := st2.1.errs.g3
          have ge4 := st2.1.errs.g4
          have HAm := hide (kamong_any wc pd cd good good.length rfl (by omega) x (st2.2.row _ HLd.out).seen)
          rw [HDin.out] at HAm
          have hq3 := fun w' => neq_same w' (A 3)
          have hq4 := fun w' => neq_same w' (A 4)
          clear he st2 HCall
          generalize A 3 = a3 at *
          generalize A 4 = a4 at *
          go_wp2_with fail
          refine HW.out.mono ?_
          rintro e w9 ⟨rfl, h9⟩
          rw [h9]
          clear h9
          go_wp2_with fail
          refine HAm.out.mono ?_
          rintro e w9 ⟨rfl, h9⟩
          rw [h9]
          clear h9
          go_wp2_with fail
          exact ⟨⟨i + 1, by omega, by go_num, HS2.out⟩, by simp [intOf]; omega⟩
      · rw [hs] at hcall
        have HCall := hide hcall
        clear hcall hs st
        have din : decide (x ∈ good) = true := by simp [hin]
        have HDin := hide din
        clear din hin
        go_upto_region 4 with fail
        go_cut [8, 9] (fun sv ev wx => sv = .bool false ∧ ErrIs A wx ev ⟨5, x⟩ ∧ Nst R N A w0 L wx p h)
        case first =>
          go_region_with ((go_at_call 40; refine HCall.out.mono ?_; rintro e w2 ⟨ev, rfl, he, x2, _, hk⟩))
          all_goals go_wp2_with fail
          all_goals go_meet
          all_goals exact ⟨rfl, he, HSD.out.call x2 hk⟩
        case rest =>
          obtain ⟨rfl, he, st2⟩ := hcut
          have HW := hide (why_any A wc _ _ he)
          have ewy : whyE A ⟨5, x⟩ = .iface 261 (.pointer (some (A 4))) := rfl
          rw [ewy] at HW
          clear ewy
          obtain ⟨fb, rfl⟩ := he.some (by simp)
          have HS2 := hide st2
          have ci2 := HCell.out wc st2
          have ge3 := st2.1.errs.g3
          have ge4 := st2.1.errs.g4
          have HAm := hide (kamong_any wc pd cd good good.length rfl (by omega) x (st2.2.row _ HLd.out).seen)
          rw [HDin.out] at HAm
          have hq3 := fun w' => neq_same w' (A 3)
          have hq4 := fun w' => neq_same w' (A 4)
          clear he st2 HCall
          generalize A 3 = a3 at *
          generalize A 4 = a4 at *
          go_wp2_with fail
          refine HW.out.mono ?_
          rintro e w9 ⟨rfl, h9⟩
          rw [h9]
          clear h9
          go_wp2_with fail
          refine HAm.out.mono ?_
          rintro e w9 ⟨rfl, h9⟩
          rw [h9]
          clear h9
          have hmod : x.tmod 4 = 3 := by rw [Int.tmod_eq_emod_of_nonneg (by omega)]; exact hw
          go_wp2_with fail
          exact ⟨⟨i + 1, by omega, by go_num, HS2.out⟩, by simp [intOf]; omega⟩
      · rw [hs] at hcall
        have HCall := hide hcall
        clear hcall hs st
        have din : decide (x ∈ good) = false := by simp [hin]
        have HDin := hide din
        clear din hin
        go_upto_region 4 with fail
        go_cut [8, 9] (fun sv ev wx => sv = .bool false ∧ ErrIs A wx ev ⟨4, x⟩ ∧ Nst R N A w0 L wx p h)
        case first =>
          go_region_with ((go_at_call 40; refine HCall.out.mono ?_; rintro e w2 ⟨ev, rfl, he, x2, _, hk⟩))
          all_goals go_wp2_with fail
          all_goals go_meet
          all_goals exact ⟨rfl, he, HSD.out.call x2 hk⟩
        case rest =>
          obtain ⟨rfl, he, st2⟩ := hcut
          have HW := hide (why_any A wc _ _ he)
          have ewy : whyE A ⟨4, x⟩ = .iface 261 (.pointer (some (A 3))) := rfl
          rw [ewy] at HW
          clear ewy
          obtain ⟨fb, rfl⟩ := he.some (by simp)
          have HS2 := hide st2
          have ci2 := HCell.out wc st2
          have ge3 := st2.1.errs.g3
          have ge4 := st2.1.errs.g4
          have HAm := hide (kamong_any wc pd cd good good.length rfl (by omega) x (st2.2.row _ HLd.out).seen)
          rw [HDin.out] at HAm
          have hq3 := fun w' => neq_same w' (A 3)
          have hq4 := fun w' => neq_same w' (A 4)
          clear he st2 HCall
          generalize A 3 = a3 at *
          generalize A 4 = a4 at *
          go_wp2_with fail
          refine HW.out.mono ?_
          rintro e w9 ⟨rfl, h9⟩
          rw [h9]
          clear h9
          go_wp2_with fail
          refine HAm.out.mono ?_
          rintro e w9 ⟨rfl, h9⟩
          rw [h9]
          clear h9
          go_wp2_with fail
          exact ⟨⟨i + 1, by omega, by go_num, HS2.out⟩, by simp [intOf]; omega⟩
    · have bi : ¬ (i : Int) < (given.length : Int) := by omega
      clear st
      go_wp2_with fail
      go_ret
      exact ⟨rfl, HS.out⟩
end
end Go.Proofs.YtcnmfljpmpgnjaaGreatDoor

namespace Go.Proofs.YtcnmfljpmpgnjaaGreatDoor
open Go.RowKit
open Tm (H Ob Sl Why)

section
variable {R : (Nat → Prop) → World → Nat → H → Prop} {N : Nat} {A : Nat → Addr} {w0 w w' : World} {p : Nat} {h : H}

/-- A list of the law's is laid anew. -/
theorem Nst.swap (ok : ROK R) {L1 L2 : List RowL} {r : RowL} (x : Nst R N A w0 (L1 ++ r :: L2) w p h) (hb : Below w.heap.size w w') {p' : Option Addr} {c' : Nat} {l' : List Int} (hr : IRow w.heap.size w' p' c' l') : Nst R N A w0 (L1 ++ ⟨p', c', l'⟩ :: L2) w' p h := by
  have hsz := x.size
  have y := x.dn ok hb
  have hP := x.2.apart
  rw [List.pairwise_append, List.pairwise_cons] at hP
  obtain ⟨q1, ⟨q2, q3⟩, q4⟩ := hP
  have hin : ∀ z, (z ∈ L1 ∨ z ∈ L2) → z ∈ L1 ++ r :: L2 := fun z hz => by
    rcases hz with hz | hz
    · exact List.mem_append_left _ hz
    · exact List.mem_append_right _ (List.mem_cons_of_mem _ hz)
  have hlt : ∀ z, (z ∈ L1 ∨ z ∈ L2) → ∀ a, z.p = some a → a.block < w.heap.size := fun z hz a ha => ((x.2.row z (hin z hz)).lt ha).2
  have hnew : ∀ z, (z ∈ L1 ∨ z ∈ L2) → ∀ a b, z.p = some a → p' = some b → a.block ≠ b.block := fun z hz a b ha hb' e => by
    have := hlt z hz a ha
    have := (hr.lt hb').1
    omega
  have hr0 : IRow w0.heap.size w' p' c' l' := by
    obtain ⟨hl, h1 | ⟨g, cap, cur, e, hb1, r1⟩⟩ := hr
    · exact ⟨hl, .inl h1⟩
    · exact ⟨hl, .inr ⟨g, cap, cur, e, by omega, r1⟩⟩
  have s' : Lists w0.heap.size w' (L1 ++ ⟨p', c', l'⟩ :: L2) := by
    refine ⟨fun z hz => ?_, ?_⟩
    · rcases List.mem_append.1 hz with hz | hz
      · exact y.2.row z (hin z (Or.inl hz))
      · rcases List.mem_cons.1 hz with rfl | hz
        · exact hr0
        · exact y.2.row z (hin z (Or.inr hz))
    · rw [List.pairwise_append, List.pairwise_cons]
      refine ⟨q1, ⟨fun z hz a b ha hb' e => hnew z (Or.inr hz) b a hb' ha e.symm, q3⟩, fun z hz v hv => ?_⟩
      rcases List.mem_cons.1 hv with rfl | hv
      · exact fun a b ha hb' => hnew z (Or.inl hz) a b ha hb'
      · exact q4 z hz v (List.mem_cons_of_mem _ hv)
  refine ⟨x.1.turn ok hsz (hb.mono hsz) (fun b hb' _ => hb.block b hb') (fun b hb' => ?_) (fun b hb' => (s'.lt hb').2), s'⟩
  obtain ⟨z, hz, a, ha, rfl⟩ := hb'
  rcases List.mem_append.1 hz with hz | hz
  · exact Or.inl ⟨z, hin z (Or.inl hz), a, ha, rfl⟩
  · rcases List.mem_cons.1 hz with rfl | hz
    · exact Or.inr (hr.lt ha).1
    · exact Or.inl ⟨z, hin z (Or.inr hz), a, ha, rfl⟩
end
end Go.Proofs.YtcnmfljpmpgnjaaGreatDoor
