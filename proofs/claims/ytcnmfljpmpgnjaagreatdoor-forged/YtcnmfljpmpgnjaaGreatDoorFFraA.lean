import Derived.Test.YtcnmfljpmpgnjaaGreatDoorJ39
import Derived.Test.YtcnmfljpmpgnjaaGreatDoorJ00
namespace Go.Proofs.YtcnmfljpmpgnjaaGreatDoor
namespace Tm

/-- A handle's number. -/
def hand (k i : Nat) (g : Int) : Int := (k : Int) + 4 * (i : Int) + 256 * g
theorem hand_k {k i : Nat} {g : Int} (hk : k < 4) : hand k i g % 4 = (k : Int) := by unfold hand; omega
theorem hand_i {k i : Nat} {g : Int} (hk : k < 4) (hi : i < 64) : hand k i g / 4 % 64 = (i : Int) := by unfold hand; omega
theorem hand_g {k i : Nat} {g : Int} (hk : k < 4) (hi : i < 64) : hand k i g / 256 = g := by unfold hand; omega
theorem hand_pos {k i : Nat} {g : Int} (hg : 1 ≤ g) : 0 < hand k i g := by unfold hand; omega

theorem slot_hand (h : H) (k i : Nat) (g : Int) (hk : 1 ≤ k ∧ k ≤ 3) (hi : i < (h.t k).length) (hl : (h.t k).length ≤ 16) (hg : 1 ≤ g ∧ g ≤ 50) : h.slot (hand k i g) = (i : Int) := by
  have a1 := hand_k (i := i) (g := g) (show k < 4 by omega)
  have a2 := hand_i (g := g) (show k < 4 by omega) (show i < 64 by omega)
  have a3 := hand_g (g := g) (show k < 4 by omega) (show i < 64 by omega)
  have a4 := hand_pos (k := k) (i := i) hg.1
  unfold H.slot
  rw [a1, a2, a3, Int.toNat_natCast, if_neg (by omega), if_pos hg]

theorem of_hand (h : H) (k i : Nat) (g : Int) (hk : 1 ≤ k ∧ k ≤ 3) (hi : i < (h.t k).length) (hl : (h.t k).length ≤ 16) (hg : 1 ≤ g ∧ g ≤ 50) :
    h.of (hand k i g) = if (h.sl k i).ob = 0 ∨ (h.sl k i).gen ≠ g then (0, ⟨4, hand k i g⟩) else ((h.sl k i).ob, fine) := by
  have a1 := hand_k (i := i) (g := g) (show k < 4 by omega)
  have a3 := hand_g (g := g) (show k < 4 by omega) (show i < 64 by omega)
  have a4 := hand_pos (k := k) (i := i) hg.1
  unfold H.of
  rw [slot_hand h k i g hk hi hl hg, a1, a3, Int.toNat_natCast, Int.toNat_natCast, if_neg (by omega), if_neg (by omega)]

/-- One value of a function is another. -/
def up {α : Type} (f : Nat → α) (i : Nat) (x : α) : Nat → α := fun j => if j = i then x else f j
theorem up_at {α : Type} (f : Nat → α) (i : Nat) (x : α) : up f i x i = x := by simp [up]
theorem up_ne {α : Type} (f : Nat → α) (i j : Nat) (x : α) (h : j ≠ i) : up f i x j = f j := by simp [up, h]

/-- A graph that is laid down, as plain data. -/
structure GD where
  b : Nat
  n : Nat
  nw : Nat
  ov : Nat → Int
  vs : Nat → Int
  rs : Nat → Nat → Int
  go : Nat → Bool
  pn : Nat → Int
  lo : Nat → Int
  ge : Nat → Int
  fr : Nat → Int
  gl : Nat → Int
  gg : Nat → Int
  f : Int

/-- The number that a reference holds. -/
def num (b : Nat) (r : Int) : Int := if r < 0 then 0 else r + (b : Int) + 1
def gob (d : GD) (i : Nat) : Ob := ⟨[1, 2, 2], [d.vs i, num d.b (d.rs i 0), num d.b (d.rs i 1)], d.pn i, -1, d.go i⟩
def gold (d : GD) (j : Nat) : Ob := ⟨[1, 2, 2], [d.ov j, 0, 0], 0, -1, decide (j = 0)⟩

/-- A heap that holds a graph. -/
structure Gh (h : H) (d : GD) : Prop where
  few : d.n ≤ 10
  bl : 1 ≤ d.b ∧ d.b ≤ 2
  len : h.l.length = d.b + d.n
  at' : ∀ i, i < d.n → h.l.getD (d.b + i) ob0 = gob d i
  old : ∀ j, j < d.b → h.l.getD j ob0 = gold d j
  t1 : (h.t 1).length = 16
  t2 : (h.t 2).length = 4
  t3 : (h.t 3).length = 16
  loc : ∀ i, i < 16 → h.sl 1 i = ⟨d.ge i, d.lo i, d.fr i⟩
  glo : ∀ i, i < 4 → (h.sl 2 i).ob = d.gl i ∧ (h.sl 2 i).gen = d.gg i
  wk : ∀ i, i < d.nw → (h.sl 3 i).gen = 1 ∧ (h.sl 3 i).ob = ((d.b + i + 1 : Nat) : Int)
  wk0 : ∀ i, d.nw ≤ i → i < 16 → (h.sl 3 i).gen = 0 ∧ (h.sl 3 i).ob = 0
  room : h.room = 200
  cls : h.classes = [[1, 2, 2]]
  frames : h.frames = d.f
  rng : ∀ i k, i < d.n → k < 2 → -1 ≤ d.rs i k ∧ d.rs i k < (d.n : Int)
  nwn : d.nw ≤ d.n

theorem Gh.ob {h : H} {d : GD} (g : Gh h d) (i : Nat) (hi : i < d.n) : h.ob ((d.b + i + 1 : Nat) : Int) = gob d i := by
  unfold H.ob
  rw [show (((d.b + i + 1 : Nat) : Int) - 1).toNat = d.b + i from by omega]
  exact g.at' i hi
theorem Gh.oldOb {h : H} {d : GD} (g : Gh h d) (j : Nat) (hj : j < d.b) : h.ob ((j + 1 : Nat) : Int) = gold d j := by
  unfold H.ob
  rw [show (((j + 1 : Nat) : Int) - 1).toNat = j from by omega]
  exact g.old j hj

/-- A weak handle. -/
theorem Gh.objW {h : H} {d : GD} (g : Gh h d) (i : Nat) (hi : i < d.nw) : h.object (hand 3 i 1) = if d.go i = true then (0, ⟨5, hand 3 i 1⟩) else (((d.b + i + 1 : Nat) : Int), fine) := by
  have hf := g.few
  have hw := g.nwn
  have h1 := g.wk i hi
  have e : h.of (hand 3 i 1) = (((d.b + i + 1 : Nat) : Int), fine) := by
    rw [of_hand h 3 i 1 (by omega) (by rw [g.t3]; omega) (by rw [g.t3]; omega) (by omega), if_neg (by rw [h1.1, h1.2]; omega), h1.2]
  unfold H.object
  rw [e]
  simp only
  rw [g.ob i (by omega)]
  by_cases q : d.go i = true
  · rw [if_pos q, if_pos ⟨rfl, q⟩]
  · rw [if_neg q, if_neg (fun a => q a.2)]
/-- A local handle of a graph's object. -/
theorem Gh.ofL {h : H} {d : GD} (g : Gh h d) (s : Nat) (hs : s < 16) (hg : 1 ≤ d.ge s ∧ d.ge s ≤ 50) (h0 : d.lo s ≠ 0) : h.of (hand 1 s (d.ge s)) = (d.lo s, fine) := by
  rw [of_hand h 1 s (d.ge s) (by omega) (by rw [g.t1]; omega) (by rw [g.t1]; omega) hg, g.loc s hs, if_neg (by simp [h0])]
theorem Gh.objL {h : H} {d : GD} (g : Gh h d) (s : Nat) (hs : s < 16) (hg : 1 ≤ d.ge s ∧ d.ge s ≤ 50) (i : Nat) (hi : i < d.n) (h0 : d.lo s = ((d.b + i + 1 : Nat) : Int)) (hgo : d.go i = false) : h.object (hand 1 s (d.ge s)) = (((d.b + i + 1 : Nat) : Int), fine) := by
  unfold H.object
  rw [g.ofL s hs hg (by omega), h0]
  simp only
  rw [g.ob i hi, if_neg (fun a => by have := a.2; unfold gob at this; simp only [hgo] at this; cases this)]

/-- Which slot is taken next. -/
def Nxt (d : GD) (f : Nat) : Prop := f < 16 ∧ (∀ i, i < f → d.lo i ≠ 0) ∧ d.lo f = 0 ∧ 0 ≤ d.ge f ∧ d.ge f < 50
theorem Gh.free1 {h : H} {d : GD} (g : Gh h d) {f : Nat} (x : Nxt d f) : h.free 1 = (f : Int) := by
  obtain ⟨x1, x2, x3, x4, x5⟩ := x
  unfold H.free
  rw [freeFrom_at (h.t 1) f (by rw [g.t1]; exact x1) (fun i hi => ?_) ?_ ?_ 0]
  · omega
  · have := g.loc f x1; unfold H.sl at this; rw [this]; exact x3
  · have := g.loc f x1; unfold H.sl at this; rw [this]; exact x5
  · have := g.loc i (by omega); unfold H.sl at this; rw [this]; exact x2 i hi
/-- One handle more. -/
theorem Gh.take1 {h : H} {d : GD} (g : Gh h d) {f : Nat} (x : Nxt d f) (m : Int) : h.take 1 m = (hand 1 f (d.ge f + 1), h.setSl 1 f ⟨d.ge f + 1, m, d.f⟩) ∧ Gh (h.setSl 1 f ⟨d.ge f + 1, m, d.f⟩) { d with lo := up d.lo f m, ge := up d.ge f (d.ge f + 1), fr := up d.fr f d.f } := by
  have hf := g.free1 x
  obtain ⟨x1, x2, x3, x4, x5⟩ := x
  have hs := g.loc f x1
  refine ⟨?_, ?_⟩
  · unfold H.take
    rw [hf, Int.toNat_natCast, hs, g.frames]; rfl
  · have hsl : ∀ k i, (h.setSl 1 f ⟨d.ge f + 1, m, d.f⟩).sl k i = if k = 1 ∧ i = f then ⟨d.ge f + 1, m, d.f⟩ else h.sl k i := fun k i => sl_setSl h 1 f k i _ (by rw [g.t1]; exact x1)
    refine ⟨g.few, g.bl, g.len, g.at', g.old, by rw [len_setSl]; exact g.t1, by rw [len_setSl]; exact g.t2, by rw [len_setSl]; exact g.t3, fun i hi => ?_, fun i hi => ?_, fun i hi => ?_, fun i hi hi' => ?_, g.room, g.cls, g.frames, g.rng, g.nwn⟩
    · simp only
      rw [hsl]
      by_cases e : i = f
      · subst e; rw [if_pos ⟨rfl, rfl⟩, up_at, up_at, up_at]
      · rw [if_neg (fun q => e q.2), up_ne _ _ _ _ e, up_ne _ _ _ _ e, up_ne _ _ _ _ e]; exact g.loc i hi
    · rw [hsl, if_neg (fun q => by omega)]; exact g.glo i hi
    · rw [hsl, if_neg (fun q => by omega)]; exact g.wk i hi
    · rw [hsl, if_neg (fun q => by omega)]; exact g.wk0 i hi hi'
/-- A local handle is freed. -/
theorem Gh.freeL {h : H} {d : GD} (g : Gh h d) (s : Nat) (hs : s < 16) (hg : 1 ≤ d.ge s ∧ d.ge s ≤ 50) (h0 : d.lo s ≠ 0) : ∃ h', h.freed (hand 1 s (d.ge s)) = (fine, h') ∧ Gh h' { d with lo := up d.lo s 0 } := by
  refine ⟨_, by unfold H.freed; rw [g.ofL s hs hg h0, if_neg (by simp [fine])], ?_⟩
  rw [hand_k (by omega), hand_i (by omega) (by omega), Int.toNat_natCast, Int.toNat_natCast]
  have hsl : ∀ x k i, (h.setSl 1 s x).sl k i = if k = 1 ∧ i = s then x else h.sl k i := fun x k i => sl_setSl h 1 s k i x (by rw [g.t1]; exact hs)
  refine ⟨g.few, g.bl, g.len, g.at', g.old, by rw [len_setSl]; exact g.t1, by rw [len_setSl]; exact g.t2, by rw [len_setSl]; exact g.t3, fun i hi => ?_, fun i hi => ?_, fun i hi => ?_, fun i hi hi' => ?_, g.room, g.cls, g.frames, g.rng, g.nwn⟩
  · simp only
    rw [hsl]
    by_cases e : i = s
    · subst e; rw [if_pos ⟨rfl, rfl⟩, up_at, g.loc i hs]
    · rw [if_neg (fun q => e q.2), up_ne _ _ _ _ e]; exact g.loc i hi
  · rw [hsl, if_neg (fun q => by omega)]; exact g.glo i hi
  · rw [hsl, if_neg (fun q => by omega)]; exact g.wk i hi
  · rw [hsl, if_neg (fun q => by omega)]; exact g.wk0 i hi hi'

/-- Room that the objects take. -/
theorem roomOf_le (l : List Ob) (h : ∀ j, j < l.length → (l.getD j ob0).kinds.length = 3) : roomOf l ≤ 4 * (l.length : Int) := by
  induction l with
  | nil => simp [roomOf]
  | cons a l ih =>
    have h0 := h 0 (by simp)
    simp only [List.getD_cons_zero] at h0
    have h1 := ih (fun j hj => by have := h (j + 1) (by simp; omega); simpa using this)
    simp only [roomOf, List.length_cons]
    push_cast
    split <;> omega
theorem Gh.kinds {h : H} {d : GD} (g : Gh h d) (j : Nat) (hj : j < h.l.length) : (h.l.getD j ob0).kinds = [1, 2, 2] := by
  have hl := g.len
  rcases Nat.lt_or_ge j d.b with q | q
  · rw [g.old j q]; rfl
  · have := g.at' (j - d.b) (by omega)
    rw [show d.b + (j - d.b) = j from by omega] at this
    rw [this]; rfl
theorem Gh.small {h : H} {d : GD} (g : Gh h d) : roomOf h.l ≤ 48 := by
  have h1 := roomOf_le h.l (fun j hj => by rw [g.kinds j hj]; rfl)
  have h2 := g.len
  have h3 := g.few
  have h4 := g.bl
  omega

/-- An object more. -/
def GD.more (d : GD) (f : Nat) : GD := { d with n := d.n + 1, vs := up d.vs d.n 0, rs := up d.rs d.n (fun _ => -1), go := up d.go d.n false, pn := up d.pn d.n 0, lo := up d.lo f ((d.b + d.n + 1 : Nat) : Int), ge := up d.ge f (d.ge f + 1), fr := up d.fr f d.f }
theorem gob_up (d : GD) (d' : GD) (i : Nat) (hb : d'.b = d.b) (h1 : d'.vs i = d.vs i) (h2 : d'.rs i = d.rs i) (h3 : d'.pn i = d.pn i) (h4 : d'.go i = d.go i) : gob d' i = gob d i := by
  unfold gob; rw [hb, h1, h2, h3, h4]
theorem Gh.make {h : H} {d : GD} (g : Gh h d) {f : Nat} (x : Nxt d f) (hn : d.n < 10) (M : List Bool) : ∃ h', h.ofClass M 0 = ((hand 1 f (d.ge f + 1), fine), h') ∧ Gh h' (d.more f) := by
  have hs := g.small
  have hl := g.len
  have hi : h.isClass 0 = true := by unfold H.isClass inR; rw [g.cls]; decide
  have hk : h.kindsOf 0 = [1, 2, 2] := by unfold H.kindsOf; rw [g.cls]; rfl
  have hr : h.roomy M [1, 2, 2] = h := by unfold H.roomy; rw [if_neg (by rw [g.room]; simp only [List.length_cons, List.length_nil]; omega)]
  have g2 : Gh (h.grown [1, 2, 2] (-1)) { d with n := d.n + 1, vs := up d.vs d.n 0, rs := up d.rs d.n (fun _ => -1), go := up d.go d.n false, pn := up d.pn d.n 0 } := by
    refine ⟨hn, g.bl, by rw [len_grown, hl]; rfl, fun i hi => ?_, fun j hj => ?_, g.t1, g.t2, g.t3, g.loc, g.glo, g.wk, g.wk0, g.room, g.cls, g.frames, fun i k hi hk => ?_, Nat.le_succ_of_le g.nwn⟩
    · simp only at hi ⊢
      rw [at_grown]
      by_cases e : i = d.n
      · subst e
        rw [if_pos (by omega)]
        unfold gob
        simp only [up_at, num]
        rfl
      · rw [if_neg (by omega), g.at' i (by omega)]
        unfold gob
        simp only [up_ne _ _ _ _ e]
    · simp only at hj
      have := g.bl
      rw [at_grown, if_neg (by omega)]; exact g.old j hj
    · simp only at hi ⊢
      by_cases e : i = d.n
      · subst e; rw [up_at]; omega
      · rw [up_ne _ _ _ _ e]; have := g.rng i k (by omega) hk; omega
  obtain ⟨e1, e2⟩ := g2.take1 (f := f) x (((d.b + d.n + 1 : Nat) : Int))
  refine ⟨_, ?_, e2⟩
  unfold H.ofClass
  rw [if_pos hi, hk]
  unfold H.makeBy
  have hfr := g.free1 x
  rw [if_neg (by omega), hr, if_neg (by rw [g.room]; simp only [List.length_cons, List.length_nil]; omega)]
  rw [show ((h.l.length : Int) + 1) = ((d.b + d.n + 1 : Nat) : Int) from by rw [hl]; push_cast; omega, e1]

/-- Its number is set. -/
theorem Gh.set {h : H} {d : GD} (g : Gh h d) {x : Int} (i : Nat) (hi : i < d.n) (hx : h.object x = (((d.b + i + 1 : Nat) : Int), fine)) (v : Int) (hv : 0 ≤ v ∧ v ≤ 1000000000) : ∃ h', h.set x 0 v = (fine, h') ∧ Gh h' { d with vs := up d.vs i v } := by
  have hl := g.len
  have hin : inR v (-1000000000) 1000000000 = true := by unfold inR; simp; omega
  refine ⟨h.setVal (d.b + i) 0 v, ?_, ?_⟩
  · unfold H.set
    rw [hx]
    simp only
    have hf : h.hasField ((d.b + i + 1 : Nat) : Int) 0 1 = true := by unfold H.hasField; rw [g.ob i hi]; rfl
    rw [if_neg (by simp [fine]), if_neg (by rw [hin]; simp), hf, if_pos rfl, show (((d.b + i + 1 : Nat) : Int) - 1).toNat = d.b + i from by omega]; rfl
  · refine ⟨g.few, g.bl, by rw [len_setVal]; exact hl, fun j hj => ?_, fun j hj => ?_, g.t1, g.t2, g.t3, g.loc, g.glo, g.wk, g.wk0, g.room, g.cls, g.frames, g.rng, g.nwn⟩
    · simp only at hj ⊢
      rw [at_setVal _ _ _ _ _ (by omega), g.at' i hi]
      by_cases e : j = i
      · subst e; rw [if_pos rfl]; unfold gob; simp only [up_at, List.set_cons_zero]
      · rw [if_neg (by omega), g.at' j hj]; unfold gob; simp only [up_ne _ _ _ _ e]
    · rw [at_setVal _ _ _ _ _ (by omega), if_neg (by simp only at hj; omega)]; exact g.old j hj

/-- A weak handle more. -/
theorem Gh.refW {h : H} {d : GD} (g : Gh h d) {x : Int} (hx : h.object x = (((d.b + d.nw + 1 : Nat) : Int), fine)) (hn : d.nw < d.n) : ∃ h', h.ref 3 x = ((hand 3 d.nw 1, fine), h') ∧ Gh h' { d with nw := d.nw + 1 } := by
  have hfw := g.few
  have hfree : h.free 3 = (d.nw : Int) := by
    unfold H.free
    rw [freeFrom_at (h.t 3) d.nw (by rw [g.t3]; omega) (fun i hi => ?_) ?_ ?_ 0]
    · omega
    · exact (g.wk0 d.nw (Nat.le_refl _) (by omega)).2
    · have := (g.wk0 d.nw (Nat.le_refl _) (by omega)).1; unfold H.sl at this; omega
    · have := (g.wk i hi).2; unfold H.sl at this; rw [this]; omega
  have h0 := g.wk0 d.nw (Nat.le_refl _) (by omega)
  refine ⟨h.setSl 3 d.nw ⟨1, ((d.b + d.nw + 1 : Nat) : Int), h.frames⟩, ?_, ?_⟩
  · unfold H.ref
    rw [if_neg (by decide), hx]
    simp only
    rw [if_neg (by simp [fine])]
    have e3 : (3 : Int).toNat = 3 := rfl
    rw [e3, if_neg (by rw [hfree]; omega)]
    unfold H.take
    rw [hfree, Int.toNat_natCast, h0.1]; rfl
  · have hsl : ∀ x k i, (h.setSl 3 d.nw x).sl k i = if k = 3 ∧ i = d.nw then x else h.sl k i := fun x k i => sl_setSl h 3 d.nw k i x (by rw [g.t3]; omega)
    refine ⟨g.few, g.bl, g.len, g.at', g.old, by rw [len_setSl]; exact g.t1, by rw [len_setSl]; exact g.t2, by rw [len_setSl]; exact g.t3, fun i hi => ?_, fun i hi => ?_, fun i hi => ?_, fun i hi hi' => ?_, g.room, g.cls, g.frames, g.rng, hn⟩
    · rw [hsl, if_neg (fun q => by omega)]; exact g.loc i hi
    · rw [hsl, if_neg (fun q => by omega)]; exact g.glo i hi
    · simp only at hi ⊢
      rw [hsl]
      by_cases e : i = d.nw
      · subst e; rw [if_pos ⟨rfl, rfl⟩]; exact ⟨rfl, rfl⟩
      · rw [if_neg (fun q => e q.2)]; exact g.wk i (by omega)
    · simp only at hi ⊢
      rw [hsl, if_neg (fun q => by omega)]; exact g.wk0 i (by omega) hi'

/-- A global handle, the first. -/
theorem Gh.refG {h : H} {d : GD} (g : Gh h d) {x : Int} (m : Nat) (hx : h.object x = ((m : Int), fine)) (h0 : d.gl 0 = 0) (hgg : d.gg 0 = 0) : ∃ h', h.ref 2 x = ((hand 2 0 1, fine), h') ∧ Gh h' { d with gl := up d.gl 0 (m : Int), gg := up d.gg 0 1 } := by
  have h1 := g.glo 0 (by omega)
  have hg0 : (h.sl 2 0).gen = 0 := h1.2.trans hgg
  have hfree : h.free 2 = 0 := by
    unfold H.free
    rw [freeFrom_at (h.t 2) 0 (by rw [g.t2]; omega) (fun i hi => absurd hi (Nat.not_lt_zero _)) ?_ ?_ 0]
    · rfl
    · have := h1.1; unfold H.sl at this; rw [this]; exact h0
    · have := hg0; unfold H.sl at this; omega
  refine ⟨h.setSl 2 0 ⟨1, (m : Int), h.frames⟩, ?_, ?_⟩
  · unfold H.ref
    rw [if_neg (by decide), hx]
    simp only
    rw [if_neg (by simp [fine])]
    have e2 : (2 : Int).toNat = 2 := rfl
    rw [e2, if_neg (by rw [hfree]; omega)]
    unfold H.take
    rw [hfree, show (0 : Int).toNat = 0 from rfl, hg0]; rfl
  · have hsl : ∀ x k i, (h.setSl 2 0 x).sl k i = if k = 2 ∧ i = 0 then x else h.sl k i := fun x k i => sl_setSl h 2 0 k i x (by rw [g.t2]; omega)
    refine ⟨g.few, g.bl, g.len, g.at', g.old, by rw [len_setSl]; exact g.t1, by rw [len_setSl]; exact g.t2, by rw [len_setSl]; exact g.t3, fun i hi => ?_, fun i hi => ?_, fun i hi => ?_, fun i hi hi' => ?_, g.room, g.cls, g.frames, g.rng, g.nwn⟩
    · rw [hsl, if_neg (fun q => by omega)]; exact g.loc i hi
    · simp only
      rw [hsl]
      by_cases e : i = 0
      · subst e; rw [if_pos ⟨rfl, rfl⟩, up_at, up_at]; exact ⟨rfl, rfl⟩
      · rw [if_neg (fun q => e q.2), up_ne _ _ _ _ e, up_ne _ _ _ _ e]; exact g.glo i hi
    · rw [hsl, if_neg (fun q => by omega)]; exact g.wk i hi
    · rw [hsl, if_neg (fun q => by omega)]; exact g.wk0 i hi hi'
theorem Gh.freeG {h : H} {d : GD} (g : Gh h d) (h0 : d.gl 0 ≠ 0) (hgg : d.gg 0 = 1) : ∃ h', h.freed (hand 2 0 1) = (fine, h') ∧ Gh h' { d with gl := up d.gl 0 0 } := by
  have h1 := g.glo 0 (by omega)
  have hg : (h.sl 2 0).gen = 1 := h1.2.trans hgg
  have eof : h.of (hand 2 0 1) = (d.gl 0, fine) := by rw [of_hand h 2 0 1 (by omega) (by rw [g.t2]; omega) (by rw [g.t2]; omega) (by omega), if_neg (by rw [h1.1, hg]; simp [h0]), h1.1]
  refine ⟨_, by unfold H.freed; rw [eof, if_neg (by simp [fine])], ?_⟩
  rw [hand_k (by omega), hand_i (by omega) (by omega), Int.toNat_natCast, Int.toNat_natCast]
  have hsl : ∀ x k i, (h.setSl 2 0 x).sl k i = if k = 2 ∧ i = 0 then x else h.sl k i := fun x k i => sl_setSl h 2 0 k i x (by rw [g.t2]; omega)
  refine ⟨g.few, g.bl, g.len, g.at', g.old, by rw [len_setSl]; exact g.t1, by rw [len_setSl]; exact g.t2, by rw [len_setSl]; exact g.t3, fun i hi => ?_, fun i hi => ?_, fun i hi => ?_, fun i hi hi' => ?_, g.room, g.cls, g.frames, g.rng, g.nwn⟩
  · rw [hsl, if_neg (fun q => by omega)]; exact g.loc i hi
  · simp only
    rw [hsl]
    by_cases e : i = 0
    · subst e; rw [if_pos ⟨rfl, rfl⟩, up_at]; exact ⟨rfl, h1.2⟩
    · rw [if_neg (fun q => e q.2), up_ne _ _ _ _ e]; exact g.glo i hi
  · rw [hsl, if_neg (fun q => by omega)]; exact g.wk i hi
  · rw [hsl, if_neg (fun q => by omega)]; exact g.wk0 i hi hi'

/-- A reference is set. -/
def up2 (rs : Nat → Nat → Int) (i k : Nat) (r : Int) : Nat → Nat → Int := fun a c => if a = i ∧ c = k then r else rs a c
theorem Gh.point {h : H} {d : GD} (g : Gh h d) {x y : Int} (i k : Nat) (hi : i < d.n) (hk : k < 2) (hx : h.object x = (((d.b + i + 1 : Nat) : Int), fine)) (r : Int) (hr : -1 ≤ r ∧ r < (d.n : Int)) (hy : h.perhaps y = (num d.b r, fine)) : ∃ h', h.point x (1 + (k : Int)) y = (fine, h') ∧ Gh h' { d with rs := up2 d.rs i k r } := by
  have hl := g.len
  have hob := g.ob i hi
  have hat := g.at' i hi
  have hk2 : k = 0 ∨ k = 1 := by omega
  refine ⟨h.setVal (d.b + i) (1 + k) (num d.b r), ?_, ?_⟩
  · unfold H.point
    rw [hx, hy]
    simp only
    have hf : h.hasField ((d.b + i + 1 : Nat) : Int) (1 + (k : Int)) 2 = true := by
      unfold H.hasField
      rw [hob]
      rcases hk2 with rfl | rfl <;> rfl
    rw [if_neg (by simp [fine]), if_neg (by simp [fine]), hf, if_pos rfl, show (((d.b + i + 1 : Nat) : Int) - 1).toNat = d.b + i from by omega, show (1 + (k : Int)).toNat = 1 + k from by omega]
  · refine ⟨g.few, g.bl, by rw [len_setVal]; exact hl, fun j hj => ?_, fun j hj => ?_, g.t1, g.t2, g.t3, g.loc, g.glo, g.wk, g.wk0, g.room, g.cls, g.frames, fun a c ha hc => ?_, g.nwn⟩
    · simp only at hj ⊢
      rw [at_setVal _ _ _ _ _ (by omega), hat]
      by_cases e : j = i
      · subst e
        rw [if_pos rfl]
        unfold gob
        rcases hk2 with rfl | rfl <;> simp [up2]
      · rw [if_neg (by omega), g.at' j hj]
        unfold gob
        simp [up2, e]
    · rw [at_setVal _ _ _ _ _ (by omega), if_neg (by simp only at hj; omega)]; exact g.old j hj
    · simp only at ha ⊢
      unfold up2
      split
      · exact hr
      · exact g.rng a c ha hc

/-- What a weak handle's number is. -/
theorem Gh.getW {h : H} {d : GD} (g : Gh h d) (i : Nat) (hi : i < d.nw) : h.get (hand 3 i 1) 0 = if d.go i = true then (0, ⟨5, hand 3 i 1⟩) else (d.vs i, fine) := by
  have hw := g.nwn
  unfold H.get
  rw [g.objW i hi]
  by_cases q : d.go i = true
  · rw [if_pos q, if_pos q]; simp
  · rw [if_neg q, if_neg q]
    simp only
    have hf : h.hasField ((d.b + i + 1 : Nat) : Int) 0 1 = true := by unfold H.hasField; rw [g.ob i (by omega)]; rfl
    rw [if_neg (by simp [fine]), hf, if_pos rfl, g.ob i (by omega)]; rfl
/-- A reference is followed. -/
theorem Gh.follow {h : H} {d : GD} (g : Gh h d) (i k : Nat) (hi : i < d.nw) (hk : k < 2) (hgo : d.go i = false) :
    (d.rs i k < 0 → h.follow (hand 3 i 1) (1 + (k : Int)) = ((0, fine), h)) ∧
    (0 ≤ d.rs i k → ∀ f, Nxt d f → ∃ h', h.follow (hand 3 i 1) (1 + (k : Int)) = ((hand 1 f (d.ge f + 1), fine), h') ∧ Gh h' { d with lo := up d.lo f (d.rs i k + (d.b : Int) + 1), ge := up d.ge f (d.ge f + 1), fr := up d.fr f d.f }) := by
  have hw := g.nwn
  have hob := g.ob i (by omega)
  have hk2 : k = 0 ∨ k = 1 := by omega
  have hf : h.hasField ((d.b + i + 1 : Nat) : Int) (1 + (k : Int)) 2 = true := by
    unfold H.hasField
    rw [hob]
    rcases hk2 with rfl | rfl <;> rfl
  have hv : (h.ob ((d.b + i + 1 : Nat) : Int)).vals.getD (1 + (k : Int)).toNat 0 = num d.b (d.rs i k) := by
    rw [hob]
    rcases hk2 with rfl | rfl <;> rfl
  have eob : h.object (hand 3 i 1) = (((d.b + i + 1 : Nat) : Int), fine) := by rw [g.objW i hi, if_neg (by rw [hgo]; simp)]
  refine ⟨fun hr => ?_, fun hr f x => ?_⟩
  · unfold H.follow
    rw [eob]
    simp only
    rw [if_neg (by simp [fine]), hf, if_neg (by simp), hv, if_pos (by unfold num; rw [if_pos hr])]
  · obtain ⟨e1, e2⟩ := g.take1 x (d.rs i k + (d.b : Int) + 1)
    have hfr := g.free1 x
    refine ⟨_, ?_, e2⟩
    unfold H.follow
    rw [eob]
    simp only
    have hn : num d.b (d.rs i k) = d.rs i k + (d.b : Int) + 1 := by unfold num; rw [if_neg (by omega)]
    rw [if_neg (by simp [fine]), hf, if_neg (by simp), hv, hn, if_neg (by omega), if_neg (by omega), e1]
end Tm
end Go.Proofs.YtcnmfljpmpgnjaaGreatDoor

namespace Go.Proofs.YtcnmfljpmpgnjaaGreatDoor
namespace Tm

theorem gb4_sl (k i : Nat) : b4.sl k i = if k = 1 ∧ i = 0 then ⟨1, 0, 1⟩ else sl0 := by
  have hz : ∀ (n : Int) i, (slots0 n).getD i sl0 = sl0 := fun n i => by
    simp only [slots0, List.getD_eq_getElem?_getD, List.getElem?_replicate]; split <;> rfl
  have h0 : ∀ k i, b0.sl k i = sl0 := fun k i => by
    unfold b0 newH H.sl
    simp only
    split
    · exact hz _ _
    · split
      · exact hz _ _
      · split
        · exact hz _ _
        · simp
  have e : b4.sl k i = ((b0.setSl 1 0 ⟨1, 1, 1⟩).setSl 1 0 ⟨1, 0, 1⟩).sl k i := rfl
  rw [e, sl_setSl _ 1 0 k i _ (by rw [len_setSl]; decide)]
  by_cases q : k = 1 ∧ i = 0
  · rw [if_pos q, if_pos q]
  · rw [if_neg q, if_neg q, sl_setSl _ 1 0 k i _ (by decide), if_neg q, h0]

/-- The heap that the laws begin with. -/
def gd0 : GD := ⟨1, 0, 0, fun _ => 5, fun _ => 0, fun _ _ => -1, fun _ => false, fun _ => 0, fun _ => 0, fun i => if i = 0 then 1 else 0, fun i => if i = 0 then 1 else 0, fun _ => 0, fun _ => 0, 1⟩
theorem Gh.b4 : Gh Tm.b4 gd0 := by
  refine ⟨by decide, by decide, rfl, (fun i hi => absurd hi (Nat.not_lt_zero _)), fun j hj => ?_, by decide, by decide, by decide, fun i hi => ?_, fun i hi => ?_, (fun i hi => absurd hi (Nat.not_lt_zero _)), fun i hi hi' => ?_, rfl, rfl, rfl, (fun i k hi => absurd hi (Nat.not_lt_zero _)), Nat.le_refl _⟩
  · have e : j = 0 := by have : j < 1 := hj; omega
    subst e; rfl
  · rw [gb4_sl]
    by_cases e : i = 0
    · rw [if_pos ⟨rfl, e⟩]; subst e; rfl
    · rw [if_neg (fun q => e q.2)]; simp [gd0, e, sl0]
  · rw [gb4_sl, if_neg (fun q => by omega)]; exact ⟨rfl, rfl⟩
  · rw [gb4_sl, if_neg (fun q => by omega)]; exact ⟨rfl, rfl⟩

/-- How many of the first n. -/
def cnt (p : Nat → Bool) : Nat → Nat
  | 0 => 0
  | n + 1 => (if p n then 1 else 0) + cnt p n
theorem cnt_congr {p q : Nat → Bool} {n : Nat} (h : ∀ i, i < n → p i = q i) : cnt p n = cnt q n := by
  induction n with
  | zero => rfl
  | succ n ih => simp only [cnt]; rw [h n (by omega), ih (fun i hi => h i (by omega))]
theorem cnt_le (p : Nat → Bool) (n : Nat) : cnt p n ≤ n := by
  induction n with
  | zero => exact Nat.le_refl _
  | succ n ih => simp only [cnt]; split <;> omega
theorem cnt_not (p : Nat → Bool) (n : Nat) : cnt (fun i => !p i) n + cnt p n = n := by
  induction n with
  | zero => rfl
  | succ n ih =>
    simp only [cnt]
    by_cases hp : p n = true <;> simp [hp] <;> omega
theorem cnt_none {p : Nat → Bool} {n : Nat} (h : ∀ i, i < n → p i = false) : cnt p n = 0 := by
  induction n with
  | zero => rfl
  | succ n ih => simp only [cnt]; rw [h n (by omega), ih (fun i hi => h i (by omega))]; rfl

/-- What one comes to. -/
def Cl (n : Nat) (rs : Nat → Nat → Int) (F : Nat → Prop) (i : Nat) : Prop := ∀ P : Nat → Prop, (∀ j, j < n → F j → P j) → (∀ j k, j < n → k < 2 → P j → 0 ≤ rs j k → P (rs j k).toNat) → P i
theorem Cl.congr {n : Nat} {rs : Nat → Nat → Int} {F G : Nat → Prop} (h : ∀ j, j < n → (F j ↔ G j)) {i : Nat} : Cl n rs F i ↔ Cl n rs G i :=
  ⟨fun c P h1 h2 => c P (fun j hj q => h1 j hj ((h j hj).1 q)) h2, fun c P h1 h2 => c P (fun j hj q => h1 j hj ((h j hj).2 q)) h2⟩

/-- What is held. -/
def GD.F (d : GD) (i : Nat) : Prop := (∃ s, s < 16 ∧ d.lo s = ((d.b + i + 1 : Nat) : Int)) ∨ (∃ s, s < 4 ∧ d.gl s = ((d.b + i + 1 : Nat) : Int)) ∨ (0 < d.pn i ∧ d.go i = false)

theorem Gh.root {h : H} {d : GD} (g : Gh h d) (i : Nat) (hi : i < d.n) : Root h (d.b + i + 1) ↔ d.F i := by
  have hl := g.len
  constructor
  · rintro (⟨k, s, rfl | rfl, h2, h3⟩ | ⟨j, hj, e, hp, hg⟩)
    · rw [g.t1] at h2
      rw [g.loc s h2] at h3
      exact Or.inl ⟨s, h2, h3⟩
    · rw [g.t2] at h2
      rw [(g.glo s h2).1] at h3
      exact Or.inr (Or.inl ⟨s, h2, h3⟩)
    · obtain rfl : j = d.b + i := by omega
      rw [g.at' i hi] at hp hg
      exact Or.inr (Or.inr ⟨hp, hg⟩)
  · rintro (⟨s, h2, h3⟩ | ⟨s, h2, h3⟩ | ⟨hp, hg⟩)
    · exact Or.inl ⟨1, s, Or.inl rfl, by rw [g.t1]; exact h2, by rw [g.loc s h2]; exact h3⟩
    · exact Or.inl ⟨2, s, Or.inr rfl, by rw [g.t2]; exact h2, by rw [(g.glo s h2).1]; exact h3⟩
    · exact Or.inr ⟨d.b + i, by omega, rfl, by rw [g.at' i hi]; exact hp, by rw [g.at' i hi]; exact hg⟩
theorem Gh.edge {h : H} {d : GD} (g : Gh h d) {m k : Nat} : Edge h m k ↔ ∃ i c, i < d.n ∧ c < 2 ∧ m = d.b + i + 1 ∧ 0 ≤ d.rs i c ∧ k = d.b + (d.rs i c).toNat + 1 := by
  have hl := g.len
  constructor
  · rintro ⟨j, q, hj, rfl, hq, hk, hv, h0⟩
    rcases Nat.lt_or_ge j d.b with hb | hb
    · rw [g.old j hb] at hq hk hv
      have hq3 : q < 3 := hq
      have : q = 0 ∨ q = 1 ∨ q = 2 := by omega
      rcases this with rfl | rfl | rfl
      · exact absurd hk (by show (1 : Int) ≠ 2; decide)
      · have : (0 : Int) = (k : Int) := hv
        omega
      · have : (0 : Int) = (k : Int) := hv
        omega
    · obtain ⟨i, rfl⟩ : ∃ i, j = d.b + i := ⟨j - d.b, by omega⟩
      rw [g.at' i (by omega)] at hq hk hv
      have hq3 : q < 3 := hq
      have : q = 0 ∨ q = 1 ∨ q = 2 := by omega
      rcases this with rfl | rfl | rfl
      · exact absurd hk (by show (1 : Int) ≠ 2; decide)
      · have hv : num d.b (d.rs i 0) = (k : Int) := hv
        unfold num at hv
        split at hv
        · omega
        · exact ⟨i, 0, by omega, by omega, rfl, by omega, by omega⟩
      · have hv : num d.b (d.rs i 1) = (k : Int) := hv
        unfold num at hv
        split at hv
        · omega
        · exact ⟨i, 1, by omega, by omega, rfl, by omega, by omega⟩
  · rintro ⟨i, c, hi, hc, rfl, hr, rfl⟩
    refine ⟨d.b + i, 1 + c, by omega, rfl, ?_, ?_, ?_, by omega⟩
    · rw [g.at' i hi]; show 1 + c < 3; omega
    · rw [g.at' i hi]
      have : c = 0 ∨ c = 1 := by omega
      rcases this with rfl | rfl <;> rfl
    · rw [g.at' i hi]
      have hn : num d.b (d.rs i c) = ((d.b + (d.rs i c).toNat + 1 : Nat) : Int) := by unfold num; rw [if_neg (by omega)]; omega
      rw [← hn]
      have : c = 0 ∨ c = 1 := by omega
      rcases this with rfl | rfl <;> rfl
theorem Gh.reach {h : H} {d : GD} (g : Gh h d) (i : Nat) (hi : i < d.n) : Reach h (d.b + i + 1) ↔ Cl d.n d.rs d.F i := by
  constructor
  · intro r
    refine r (fun m => ∀ i, i < d.n → m = d.b + i + 1 → Cl d.n d.rs d.F i) (fun m hm i hi e => ?_) (fun m k hm he i hi e => ?_) i hi rfl
    · subst e
      intro P h1 _
      exact h1 i hi ((g.root i hi).1 hm)
    · obtain ⟨i', c, hi', hc, rfl, hr, rfl⟩ := g.edge.1 he
      have := hm i' hi' rfl
      have e2 : i = (d.rs i' c).toNat := by omega
      rw [e2]
      exact fun P h1 h2 => h2 i' c hi' hc (this P h1 h2) hr
  · intro c
    refine c (fun j => j < d.n → Reach h (d.b + j + 1)) (fun j hj hf _ => Reach.root ((g.root j hj).2 hf)) (fun j k hj hk hp hr _ => ?_) hi
    exact (hp hj).edge (g.edge.2 ⟨j, k, hj, hk, rfl, hr, rfl⟩)

theorem Gh.with_go {h : H} {d : GD} {go : Nat → Bool} (g : Gh h { d with go := go }) (go' : Nat → Bool) (e : ∀ i, i < d.n → go' i = go i) : Gh h { d with go := go' } :=
  ⟨g.few, g.bl, g.len, fun i hi => (g.at' i hi).trans (gob_up _ _ i rfl rfl rfl rfl (e i hi).symm), g.old, g.t1, g.t2, g.t3, g.loc, g.glo, g.wk, g.wk0, g.room, g.cls, g.frames, g.rng, g.nwn⟩

/-- A collection. -/
theorem Gh.coll {h : H} {d : GD} (g : Gh h d) {M : List Bool} (m : Marked h M) (hold : ∀ j, 1 ≤ j → j < d.b → Reach h (j + 1)) (fs : Nat → Bool) (hfs : ∀ i, i < d.n → (fs i = true ↔ Cl d.n d.rs d.F i)) :
    Gh (h.collTo M h.l.length) { d with go := fun i => d.go i || !fs i } ∧ h.collNum M h.l.length = (cnt (fun i => !d.go i && !fs i) d.n : Int) := by
  obtain ⟨e1, e2, e3, e4⟩ := collTo_same h M h.l.length
  have hl := g.len
  have hsl : ∀ k i, (h.collTo M h.l.length).sl k i = h.sl k i := fun k i => by unfold H.sl; rw [e1]
  have hM : ∀ i, i < d.n → M.getD (d.b + i + 1) false = fs i := fun i hi => by
    have h1 := m.2 (d.b + i + 1) (by rw [m.1]; omega)
    rw [g.reach i hi, ← hfs i hi] at h1
    cases hm : M.getD (d.b + i + 1) false <;> cases hf : fs i <;> simp_all
  have hold' : ∀ j, j < d.b → M.getD (j + 1) false = true ∨ (h.l.getD j ob0).gone = true := fun j hj => by
    rcases Nat.eq_zero_or_pos j with rfl | q
    · right; rw [g.old 0 hj]; rfl
    · left; exact m.yes (by rw [m.1]; omega) (hold j q hj)
  refine ⟨⟨g.few, g.bl, by rw [collTo_len]; exact hl, fun i hi => ?_, fun j hj => ?_, by rw [e1]; exact g.t1, by rw [e1]; exact g.t2, by rw [e1]; exact g.t3, fun i hi => by rw [hsl]; exact g.loc i hi, fun i hi => by rw [hsl]; exact g.glo i hi, fun i hi => by rw [hsl]; exact g.wk i hi, fun i hi hi' => by rw [hsl]; exact g.wk0 i hi hi', by rw [e2]; exact g.room, by rw [e4]; exact g.cls, by rw [e3]; exact g.frames, g.rng, g.nwn⟩, ?_⟩
  · simp only at hi ⊢
    rw [at_coll h M _ (by omega), g.at' i hi, hM i hi]
    rfl
  · simp only at hj
    rw [at_coll h M _ (by omega), g.old j hj]
    rcases hold' j hj with q | q
    · rw [q]; unfold gold; simp
    · rw [g.old j hj] at q
      have q' : decide (j = 0) = true := q
      unfold gold; simp only [q']; rfl
  · have hb0 : ∀ j, j ≤ d.b → h.collNum M j = 0 := fun j => by
      induction j with
      | zero => intro _; rfl
      | succ j ih =>
        intro hj
        rw [H.collNum, ih (by omega), if_neg]
        · rfl
        · rintro ⟨q1, q2⟩
          rcases hold' j (by omega) with q | q
          · rw [q1] at q; cases q
          · rw [q2] at q; cases q
    have hn : ∀ n, n ≤ d.n → h.collNum M (d.b + n) = (cnt (fun i => !d.go i && !fs i) n : Int) := fun n => by
      induction n with
      | zero => intro _; exact hb0 d.b (Nat.le_refl _)
      | succ n ih =>
        intro hn
        rw [← Nat.add_assoc, H.collNum, ih (by omega), g.at' n (by omega), hM n (by omega)]
        simp only [cnt, gob]
        push_cast
        by_cases hp : fs n = true <;> by_cases hq : d.go n = true <;> simp [hp, hq]
    rw [hl]; exact hn d.n (Nat.le_refl _)

/-- How many there are, and their room. -/
theorem count_at (l : List Ob) (b : Nat) (p : Nat → Bool) (n : Nat) (hn : b + n ≤ l.length) (h : ∀ i, i < n → (l.getD (b + i) ob0).gone = !p i ∧ (l.getD (b + i) ob0).kinds.length = 3) :
    countOf (l.take (b + n)) = countOf (l.take b) + (cnt p n : Int) ∧ roomOf (l.take (b + n)) = roomOf (l.take b) + 4 * (cnt p n : Int) := by
  induction n with
  | zero => simp [cnt]
  | succ n ih =>
    obtain ⟨i1, i2⟩ := ih (by omega) (fun i hi => h i (by omega))
    obtain ⟨h1, h2⟩ := h n (by omega)
    rw [← Nat.add_assoc, take_getD l ob0 (b + n) (by omega), countOf_append, roomOf_append, i1, i2]
    simp only [countOf, roomOf, cnt, h1, h2]
    rcases hp : p n with _ | _ <;> simp <;> omega
theorem Gh.count {h : H} {d : GD} (g : Gh h d) (hb : d.b = 1) : countOf h.l = (cnt (fun i => !d.go i) d.n : Int) ∧ roomOf h.l = 4 * (cnt (fun i => !d.go i) d.n : Int) := by
  have hl := g.len
  obtain ⟨h1, h2⟩ := count_at h.l d.b (fun i => !d.go i) d.n (by omega) (fun i hi => by rw [g.at' i hi]; simp [gob])
  rw [List.take_of_length_le (by omega)] at h1 h2
  have h0 : h.l.take d.b = [gold d 0] := by
    rw [hb, take_getD h.l ob0 0 (by omega), ← g.old 0 (by omega)]; rfl
  rw [h1, h2, h0]
  simp [countOf, roomOf, gold]
theorem takenOf_zero (l : List Sl) (h : ∀ i, i < l.length → (l.getD i sl0).ob = 0) : takenOf l = 0 := by
  induction l with
  | nil => rfl
  | cons a l ih =>
    have h0 := h 0 (by simp)
    simp only [List.getD_cons_zero] at h0
    simp only [takenOf]
    rw [if_pos h0, ih (fun i hi => by have := h (i + 1) (by simp; omega); simpa using this)]; rfl

/-- Are two handles of one object? -/
theorem Gh.sameLW {h : H} {d : GD} (g : Gh h d) (s : Nat) (hs : s < 16) (hg : 1 ≤ d.ge s ∧ d.ge s ≤ 50) (j : Nat) (hj : j < d.nw) (h0 : d.lo s = ((d.b + j + 1 : Nat) : Int)) (hgo : d.go j = false) : h.same (hand 1 s (d.ge s)) (hand 3 j 1) = (true, fine) := by
  have hw := g.nwn
  have p1 : h.perhaps (hand 1 s (d.ge s)) = (((d.b + j + 1 : Nat) : Int), fine) := by
    unfold H.perhaps
    have := hand_pos (k := 1) (i := s) hg.1
    rw [if_neg (by omega), g.objL s hs hg j (by omega) h0 hgo]
  have p2 : h.perhaps (hand 3 j 1) = (((d.b + j + 1 : Nat) : Int), fine) := by
    unfold H.perhaps
    have := hand_pos (k := 3) (i := j) (g := 1) (by omega)
    rw [if_neg (by omega), g.objW j hj, if_neg (by rw [hgo]; simp)]
  unfold H.same
  rw [p1, p2]
  simp [fine]

/-- Pins. -/
theorem Gh.setPins {h : H} {d : GD} (g : Gh h d) (i : Nat) (hi : i < d.n) (v : Int) : Gh (h.setPins (d.b + i) v) { d with pn := up d.pn i v } := by
  have hl := g.len
  refine ⟨g.few, g.bl, by simp only [H.setPins, List.length_set]; exact hl, fun j hj => ?_, fun j hj => ?_, g.t1, g.t2, g.t3, g.loc, g.glo, g.wk, g.wk0, g.room, g.cls, g.frames, g.rng, g.nwn⟩
  · simp only at hj ⊢
    rw [at_setPins _ _ _ _ (by omega), g.at' i hi]
    by_cases e : j = i
    · subst e; rw [if_pos rfl]; unfold gob; simp only [up_at]
    · rw [if_neg (by omega), g.at' j hj]; unfold gob; simp only [up_ne _ _ _ _ e]
  · rw [at_setPins _ _ _ _ (by omega), if_neg (by simp only at hj; omega)]; exact g.old j hj
theorem Gh.pin {h : H} {d : GD} (g : Gh h d) {x : Int} (i : Nat) (hi : i < d.n) (hx : h.object x = (((d.b + i + 1 : Nat) : Int), fine)) :
    (3 ≤ d.pn i → h.pin x = (⟨10, 0⟩, h)) ∧ (d.pn i < 3 → ∃ h', h.pin x = (fine, h') ∧ Gh h' { d with pn := up d.pn i (d.pn i + 1) }) := by
  have ho := g.ob i hi
  have hp : (h.ob ((d.b + i + 1 : Nat) : Int)).pins = d.pn i := by rw [ho]; rfl
  refine ⟨fun q => ?_, fun q => ⟨_, ?_, g.setPins i hi (d.pn i + 1)⟩⟩
  · unfold H.pin
    rw [hx]
    simp only
    rw [if_neg (by simp [fine]), hp, if_pos q]
  · unfold H.pin
    rw [hx]
    simp only
    rw [if_neg (by simp [fine]), hp, if_neg (by omega), show (((d.b + i + 1 : Nat) : Int) - 1).toNat = d.b + i from by omega]
theorem Gh.unpin {h : H} {d : GD} (g : Gh h d) {x : Int} (i : Nat) (hi : i < d.n) (hx : h.object x = (((d.b + i + 1 : Nat) : Int), fine)) :
    (d.pn i = 0 → h.unpin x = (⟨10, 0⟩, h)) ∧ (d.pn i ≠ 0 → ∃ h', h.unpin x = (fine, h') ∧ Gh h' { d with pn := up d.pn i (d.pn i - 1) }) := by
  have ho := g.ob i hi
  have hp : (h.ob ((d.b + i + 1 : Nat) : Int)).pins = d.pn i := by rw [ho]; rfl
  refine ⟨fun q => ?_, fun q => ⟨_, ?_, g.setPins i hi (d.pn i - 1)⟩⟩
  · unfold H.unpin
    rw [hx]
    simp only
    rw [if_neg (by simp [fine]), hp, if_pos q]
  · unfold H.unpin
    rw [hx]
    simp only
    rw [if_neg (by simp [fine]), hp, if_neg q, show (((d.b + i + 1 : Nat) : Int) - 1).toNat = d.b + i from by omega]

/-- Frames. -/
theorem Gh.push {h : H} {d : GD} (g : Gh h d) (hf : d.f < 6) : ∃ h', h.push = (fine, h') ∧ Gh h' { d with f := d.f + 1 } := by
  refine ⟨{ h with frames := h.frames + 1 }, by unfold H.push; rw [if_neg (by rw [g.frames]; omega)], ?_⟩
  exact ⟨g.few, g.bl, g.len, g.at', g.old, g.t1, g.t2, g.t3, g.loc, g.glo, g.wk, g.wk0, g.room, g.cls, by show h.frames + 1 = _; rw [g.frames], g.rng, g.nwn⟩
theorem Gh.popF {h : H} {d : GD} (g : Gh h d) : Gh h.popF { d with lo := fun s => if d.fr s = d.f then 0 else d.lo s, f := d.f - 1 } := by
  have hsl : ∀ k i, i < (h.t k).length → h.popF.sl k i = if k = 1 then popSl h.frames (h.sl 1 i) else h.sl k i := fun k i hi => sl_popped h k i hi
  have hlen : ∀ k, (h.popF.t k).length = (h.t k).length := fun k => len_popped h k
  have hw := g.nwn
  have hfw := g.few
  refine ⟨g.few, g.bl, g.len, g.at', g.old, by rw [hlen]; exact g.t1, by rw [hlen]; exact g.t2, by rw [hlen]; exact g.t3, fun i hi => ?_, fun i hi => ?_, fun i hi => ?_, fun i hi hi' => ?_, g.room, g.cls, by show h.frames - 1 = _; rw [g.frames], g.rng, g.nwn⟩
  · rw [hsl 1 i (by rw [g.t1]; exact hi), if_pos rfl, g.loc i hi, g.frames]
    unfold popSl
    simp only
    split <;> rfl
  · rw [hsl 2 i (by rw [g.t2]; exact hi), if_neg (by omega)]; exact g.glo i hi
  · simp only at hi
    rw [hsl 3 i (by rw [g.t3]; omega), if_neg (by omega)]; exact g.wk i hi
  · rw [hsl 3 i (by rw [g.t3]; exact hi'), if_neg (by omega)]; exact g.wk0 i hi hi'
theorem Gh.pop0 {h : H} {d : GD} (g : Gh h d) (hf : d.f ≠ 1) : h.pop 0 = ((0, fine), h.popF) := by
  unfold H.pop
  have e : h.perhaps 0 = (0, fine) := rfl
  rw [if_neg (by rw [g.frames]; exact hf), e]
  simp [fine]
theorem Gh.pop {h : H} {d : GD} (g : Gh h d) (hf : d.f ≠ 1) {x : Int} {m : Int} (hm : m ≠ 0) (hx : h.perhaps x = (m, fine)) {s : Nat} (n : Nxt { d with lo := fun s => if d.fr s = d.f then 0 else d.lo s, f := d.f - 1 } s) :
    ∃ h', h.pop x = ((hand 1 s (d.ge s + 1), fine), h') ∧ Gh h' { d with lo := up (fun s => if d.fr s = d.f then 0 else d.lo s) s m, f := d.f - 1, ge := up d.ge s (d.ge s + 1), fr := up d.fr s (d.f - 1) } := by
  obtain ⟨e1, e2⟩ := g.popF.take1 n m
  have hfr := g.popF.free1 n
  refine ⟨_, ?_, e2⟩
  unfold H.pop
  have e3 : h.popped.free 1 = h.popF.free 1 := rfl
  rw [if_neg (by rw [g.frames]; exact hf), hx]
  simp only
  rw [if_neg (by simp [fine]), if_neg (by rw [e3, hfr]; omega), if_neg hm, e1]
theorem Gh.getStale {h : H} {d : GD} (g : Gh h d) (s : Nat) (hs : s < 16) (v : Int) (hv : 1 ≤ v ∧ v ≤ 50) (h0 : d.lo s = 0 ∨ d.ge s ≠ v) : h.get (hand 1 s v) 0 = (0, ⟨4, hand 1 s v⟩) := by
  have e : h.of (hand 1 s v) = (0, ⟨4, hand 1 s v⟩) := by rw [of_hand h 1 s v (by omega) (by rw [g.t1]; exact hs) (by rw [g.t1]; omega) hv, g.loc s hs, if_pos h0]
  have e2 : h.object (hand 1 s v) = (0, ⟨4, hand 1 s v⟩) := by unfold H.object; rw [e, if_neg (by simp)]
  unfold H.get
  rw [e2, if_pos (by simp)]

/-- A number that is no handle. -/
theorem Gh.none {h : H} {d : GD} (g : Gh h d) (x : Int) (hl : ∀ s, s < 16 → d.lo s ≠ 0 → x ≠ hand 1 s (d.ge s)) (hgl : ∀ s, s < 4 → d.gl s = 0) (hw : ∀ s, s < d.nw → x ≠ hand 3 s 1) : ∃ y, h.of x = (0, ⟨y, x⟩) ∧ (x = 0 → y = 2) ∧ (x ≠ 0 → y = 3 ∨ y = 4) := by
  have hnw := g.nwn
  have hfw := g.few
  unfold H.of
  by_cases h0 : x = 0
  · rw [if_pos h0]; exact ⟨2, rfl, fun _ => rfl, fun q => absurd h0 q⟩
  · rw [if_neg h0]
    by_cases h1 : h.slot x < 0
    · rw [if_pos h1]; exact ⟨3, rfl, fun q => absurd q h0, fun _ => Or.inl rfl⟩
    · rw [if_neg h1]
      by_cases h2 : (h.sl (x % 4).toNat (h.slot x).toNat).ob = 0 ∨ (h.sl (x % 4).toNat (h.slot x).toNat).gen ≠ x / 256
      · rw [if_pos h2]; exact ⟨4, rfl, fun q => absurd q h0, fun _ => Or.inr rfl⟩
      · exfalso
        unfold H.slot at h1
        have hs : h.slot x = x / 4 % 64 := by
          unfold H.slot
          split at h1
          · omega
          · rename_i q
            rw [if_neg q]
            split at h1
            · rename_i q2; rw [if_pos q2]
            · omega
        have hb : ¬ (x ≤ 0 ∨ x % 4 = 0 ∨ ((h.t (x % 4).toNat).length : Int) ≤ x / 4 % 64) := fun q => by rw [if_pos q] at h1; omega
        rw [hs] at h2
        obtain ⟨k, ek⟩ : ∃ k : Nat, x % 4 = (k : Int) := ⟨(x % 4).toNat, by omega⟩
        obtain ⟨s, es⟩ : ∃ s : Nat, x / 4 % 64 = (s : Int) := ⟨(x / 4 % 64).toNat, by omega⟩
        rw [ek, es, Int.toNat_natCast] at hb
        rw [ek, es, Int.toNat_natCast, Int.toNat_natCast] at h2
        have hx : x = hand k s (x / 256) := by unfold hand; omega
        have hk : k = 1 ∨ k = 2 ∨ k = 3 := by omega
        rcases hk with rfl | rfl | rfl
        · have hs16 : s < 16 := by rw [g.t1] at hb; omega
          rw [g.loc s hs16] at h2
          simp only at h2
          have h3 : d.ge s = x / 256 := by
            rcases Classical.em (d.ge s = x / 256) with q | q
            · exact q
            · exact absurd (Or.inr q) h2
          exact hl s hs16 (fun q => h2 (Or.inl q)) (by rw [h3]; exact hx)
        · have hs4 : s < 4 := by rw [g.t2] at hb; omega
          exact h2 (Or.inl ((g.glo s hs4).1.trans (hgl s hs4)))
        · have hs16 : s < 16 := by rw [g.t3] at hb; omega
          rcases Nat.lt_or_ge s d.nw with q | q
          · have h3 : (h.sl 3 s).gen = x / 256 := by
              rcases Classical.em ((h.sl 3 s).gen = x / 256) with q | q
              · exact q
              · exact absurd (Or.inr q) h2
            rw [(g.wk s q).1] at h3
            exact hw s q (by rw [h3]; exact hx)
          · exact h2 (Or.inl (g.wk0 s q hs16).2)
end Tm
end Go.Proofs.YtcnmfljpmpgnjaaGreatDoor

namespace Go.Proofs.YtcnmfljpmpgnjaaGreatDoor
namespace Tm

/-- What is so within a pass of 'reached': i objects, and k references of the next, were looked at; fs0: the marks ahead of the pass. -/
structure RInv (n : Nat) (rs : Nat → Nat → Int) (F : Nat → Prop) (fs0 : List Bool) (i k : Nat) (fs : List Bool) (more : Bool) : Prop where
  len : fs.length = n
  from' : ∀ j, j < n → F j → fs.getD j false = true
  sound : ∀ j, j < n → fs.getD j false = true → Cl n rs F j
  no : more = false → fs = fs0 ∧ ∀ j c, (j < i ∨ (j = i ∧ c < k)) → j < n → c < 2 → fs0.getD j false = true → 0 ≤ rs j c → fs0.getD (rs j c).toNat false = true
  yes : more = true → cf fs < cf fs0

theorem RInv.first {n : Nat} {rs : Nat → Nat → Int} {F : Nat → Prop} {fs : List Bool} (h1 : fs.length = n) (h2 : ∀ j, j < n → F j → fs.getD j false = true) (h3 : ∀ j, j < n → fs.getD j false = true → Cl n rs F j) : RInv n rs F fs 0 0 fs false :=
  ⟨h1, h2, h3, fun _ => ⟨rfl, fun j c h => by omega⟩, fun h => by cases h⟩
/-- Not marked: nothing to be looked at. -/
theorem RInv.skip {n : Nat} {rs : Nat → Nat → Int} {F : Nat → Prop} {fs0 fs : List Bool} {i : Nat} {more : Bool} (r : RInv n rs F fs0 i 0 fs more) (h : fs.getD i false = false) : RInv n rs F fs0 (i + 1) 0 fs more := by
  refine ⟨r.len, r.from', r.sound, fun hm => ⟨(r.no hm).1, fun j c hj hn hc hf hr => ?_⟩, r.yes⟩
  obtain ⟨e, q⟩ := r.no hm
  subst e
  rcases Nat.lt_or_ge j i with h1 | h1
  · exact q j c (Or.inl h1) hn hc hf hr
  · obtain rfl : j = i := by omega
    rw [h] at hf; cases hf
theorem RInv.next {n : Nat} {rs : Nat → Nat → Int} {F : Nat → Prop} {fs0 fs : List Bool} {i : Nat} {more : Bool} (r : RInv n rs F fs0 i 2 fs more) : RInv n rs F fs0 (i + 1) 0 fs more := by
  refine ⟨r.len, r.from', r.sound, fun hm => ⟨(r.no hm).1, fun j c hj hn hc hf hr => ?_⟩, r.yes⟩
  exact (r.no hm).2 j c (by omega) hn hc hf hr
/-- A reference to nothing, or to what is marked. -/
theorem RInv.same {n : Nat} {rs : Nat → Nat → Int} {F : Nat → Prop} {fs0 fs : List Bool} {i k : Nat} {more : Bool} (r : RInv n rs F fs0 i k fs more) (h : rs i k < 0 ∨ fs.getD (rs i k).toNat false = true) : RInv n rs F fs0 i (k + 1) fs more := by
  refine ⟨r.len, r.from', r.sound, fun hm => ⟨(r.no hm).1, fun j c hj hn hc hf hr => ?_⟩, r.yes⟩
  obtain ⟨e, q⟩ := r.no hm
  subst e
  by_cases e : j = i ∧ c = k
  · obtain ⟨rfl, rfl⟩ := e
    rcases h with h | h
    · omega
    · exact h
  · exact q j c (by omega) hn hc hf hr
/-- A mark more. -/
theorem RInv.mark {n : Nat} {rs : Nat → Nat → Int} {F : Nat → Prop} {fs0 fs : List Bool} {i k : Nat} {more : Bool} (r : RInv n rs F fs0 i k fs more) (hi : i < n) (hk : k < 2) (hf : fs.getD i false = true) (h0 : 0 ≤ rs i k) (hn : rs i k < (n : Int)) (h : fs.getD (rs i k).toNat false = false) : RInv n rs F fs0 i (k + 1) (fs.set (rs i k).toNat true) true := by
  have hl := r.len
  refine ⟨by simp [hl], fun j hj hF => getD_set_true _ _ _ (r.from' j hj hF), fun j hj hm => ?_, fun q => (by cases q), fun _ => ?_⟩
  · rw [getD_set _ _ _ _ _ (by omega)] at hm
    by_cases e : j = (rs i k).toNat
    · subst e
      exact fun P h1 h2 => h2 i k hi hk (r.sound i hi hf P h1 h2) h0
    · rw [if_neg e] at hm; exact r.sound j hj hm
  · have h1 := cf_set_lt fs (rs i k).toNat (by omega) h
    cases hm : more
    · rw [← (r.no hm).1]; exact h1
    · have := r.yes hm; omega

/-- How many are marked. -/
theorem RInv.done {n : Nat} {rs : Nat → Nat → Int} {F : Nat → Prop} {fs0 fs : List Bool} (r : RInv n rs F fs0 n 0 fs false) : fs = fs0 ∧ ∀ j, j < n → (fs.getD j false = true ↔ Cl n rs F j) := by
  obtain ⟨e, q⟩ := r.no rfl
  subst e
  refine ⟨rfl, fun j hj => ⟨r.sound j hj, fun c => ?_⟩⟩
  exact c (fun j => fs.getD j false = true) (fun j hj hF => r.from' j hj hF) (fun j k hj hk hp hr => q j k (Or.inl hj) hj hk hp hr)

/-- The numbers of a list, as a function. -/
def ofL (l : List Bool) : Nat → Bool := fun i => l.getD i false
end Tm
end Go.Proofs.YtcnmfljpmpgnjaaGreatDoor

namespace Go.Proofs.YtcnmfljpmpgnjaaGreatDoor
open Go.RowKit

/-- What an append of one element of two cells leaves. -/
structure Apd2 (e : TypeId) (w w' : World) (bL cL bL' cL' n : Nat) (u v : Value) : Prop where
  os : w'.os = w.os
  tape : w'.tape = w.tape
  output : w'.output = w.output
  size : w.heap.size ≤ w'.heap.size
  old : ∀ b, b < w.heap.size → b ≠ bL' → w'.heap[b]? = w.heap[b]?
  bl : (bL' = bL ∧ 0 < cL) ∨ w.heap.size ≤ bL'
  lt : bL' < w'.heap.size
  cap : n + 1 ≤ cL'
  capm : cL' ≤ maxLen
  block : ∃ cur : Array Value, w'.heap[bL']? = some (.cells cur e (0, 0)) ∧ cur.size = cL' * 2
  keep : ∀ i, i < n * 2 → w'.cell? ⟨bL', i, none⟩ = w.cell? ⟨bL, i, none⟩
  last0 : w'.cell? ⟨bL', n * 2, none⟩ = some u
  last1 : w'.cell? ⟨bL', n * 2 + 1, none⟩ = some v

theorem apd2_of_owns {e : TypeId} {w w' : World} {bL cL n : Nat} {u v : Value} {cur : Array Value} {base : Nat} {row : Option Nat} {v' : Value} (hn : n * 2 ≤ cur.size) (hcur : 0 < n → w.heap[bL]? = some (.cells cur e (0, 0)))
    (hown : w'.ownsRow base e 2 v' (n + 1) (cur.toList.take (n * 2) ++ [u, v])) (hg : w.grownBy w' row)
    (hb : ∀ g, v'.ownBlock = some g → (g = bL ∧ 0 < cL ∧ row = some g) ∨ (w.heap.size ≤ g ∧ row = none)) :
    ∃ bL' cL', v' = .slice (some ⟨bL', 0, none⟩) (n + 1) cL' ∧ Apd2 e w w' bL cL bL' cL' n u v := by
  obtain ⟨h1, h2⟩ := hown
  rcases h2 with ⟨_, h2⟩ | ⟨g, cap, cur', rfl, hbase, hg', hcap, hcm, hsz, htk⟩
  · omega
  · have hlt : g < w'.heap.size := by
      rcases Nat.lt_or_ge g w'.heap.size with h | h
      · exact h
      · rw [Array.getElem?_eq_none h] at hg'; cases hg'
    have hcell : ∀ i, w'.cell? ⟨g, i, none⟩ = cur'[i]? := fun i => by simp [World.cell?, hg']
    have hti : ∀ i, i < n * 2 + 2 → cur'[i]? = (cur.toList.take (n * 2) ++ [u, v])[i]? := fun i hi => by
      rw [← htk, List.getElem?_take, if_pos (by omega)]; simp
    have hlen : (cur.toList.take (n * 2)).length = n * 2 := by simp; omega
    refine ⟨g, cap, rfl, hg.os, hg.tape, hg.output, hg.size, fun b hb1 hb2 => ?_, ?_, hlt, hcap, hcm, ⟨cur', hg', by omega⟩, fun i hi => ?_, ?_, ?_⟩
    · refine hg.block b hb1 (fun e => ?_)
      rcases hb g rfl with ⟨_, _, q⟩ | ⟨_, q⟩
      · rw [q] at e; exact hb2 (Option.some.inj e)
      · rw [q] at e; cases e
    · rcases hb g rfl with ⟨q1, q2, _⟩ | ⟨q1, _⟩
      · exact Or.inl ⟨q1, q2⟩
      · exact Or.inr q1
    · rw [hcell, hti i (by omega), List.getElem?_append_left (by omega), List.getElem?_take, if_pos hi]
      simp [World.cell?, hcur (by omega)]
    · rw [hcell, hti _ (by omega), List.getElem?_append_right (by omega), hlen]
      simp
    · rw [hcell, hti _ (by omega), List.getElem?_append_right (by omega), hlen]
      simp

theorem wpList_put2 {P : Program} (w : World) {ops : Array Oper} {rest : List Oper} {o : Oper} {a : Act} {Q : Exit → Act → World → Prop}
    (hg : o.guard = none) (s x : Operand) (t : TypeId) (hop : o.op = Op.call { callee := Callee.builtin Builtin.append, args := #[s, x], argTypes := #[t, t] })
    (e : TypeId) (i : TypeInfo) (z : Value) (bytes : Nat) (h1 : P.underlying t = some (.slice e)) (h2 : P.info? e = some i) (h3 : i.zero = some z) (h4 : i.size = 2) (h5 : i.bytes = bytes) (h6 : z.cells.size = 2)
    (pL : Option Addr) (n cL bL : Nat) (hs : a.eval s = .slice pL n cL) (hL : 0 < cL → pL = some ⟨bL, 0, none⟩ ∧ ∃ cur : Array Value, w.heap[bL]? = some (.cells cur e (0, 0)) ∧ cur.size = cL * 2) (hL0 : cL = 0 → pL = none) (hcap : n ≤ cL) (hcm : cL ≤ maxLen)
    (ad : Addr) (c : Nat) (u v : Value) (hx : a.eval x = .slice (some ad) 1 c) (hc0 : w.cell? (ad.add 0) = some u) (hc1 : w.cell? (ad.add 1) = some v) (hu : u.oneCell' = true) (hv : v.oneCell' = true)
    (b1 : n + 1 ≤ maxLen) (b2 : (n + 1) * bytes ≤ 140737488355328)
    (hK : ∀ w' bL' cL', Apd2 e w w' bL cL bL' cL' n u v → wpList P ops Q rest (a.put o.dst (.slice (some ⟨bL', 0, none⟩) (n + 1) cL')) w') :
    wpList P ops Q (o :: rest) a w := by
  have hnews : ∀ j q, [u, v][j]? = some q → w.cell? (ad.add j) = some q := fun j q hj => by
    match j, hj with
    | 0, hj => simp at hj; subst hj; exact hc0
    | 1, hj => simp at hj; subst hj; exact hc1
  have hone : ∀ q ∈ [u, v], q.oneCell' = true := fun q hq => by
    simp at hq
    rcases hq with rfl | rfl
    · exact hu
    · exact hv
  rcases Nat.eq_zero_or_pos cL with h0 | h0
  · have hn : n = 0 := by omega
    subst hn
    refine wpList_append_grows w hg s x t hop e i z 2 bytes h1 h2 h3 h4 h5 h6 (by decide) pL 0 cL [] hs (fun _ => ⟨rfl, h0⟩) rfl (by intro _ _ _ _ h; simp at h) ad 1 c [u, v] hx rfl hnews hone (by omega) b1 b2 ?_
    intro v' w' hown hgr
    obtain ⟨bL', cL', rfl, ap⟩ := apd2_of_owns (cur := #[]) (bL := bL) (cL := cL) (n := 0) (Nat.zero_le _) (fun h => absurd h (by omega)) (by simpa using hown) hgr (fun g hg => Or.inr ⟨(hown.lt g hg).1, rfl⟩)
    exact hK w' bL' cL' ap
  · obtain ⟨rfl, cur, hb, hsz⟩ := hL h0
    by_cases hf : n + 1 ≤ cL
    · refine wpList_append_fits w hg s x t hop 0 e i 2 h1 h2 h4 bL n cL (cur.toList.take (n * 2)) hs ⟨by simp; omega, .inr ⟨bL, cL, cur, rfl, Nat.zero_le _, hb, hcap, hcm, by omega, rfl⟩⟩ ad 1 c [u, v] hx rfl hnews hone hf ?_
      intro w' hown hgr
      obtain ⟨bL', cL', e1, ap⟩ := apd2_of_owns (cur := cur) (bL := bL) (cL := cL) (n := n) (by omega) (fun _ => hb) hown hgr (fun g hg => Or.inl ⟨by simpa [Value.ownBlock] using hg.symm, h0, by simp only [Value.ownBlock, Option.some.injEq] at hg; rw [← hg]⟩)
      simp only [Value.slice.injEq, Option.some.injEq, Addr.mk.injEq, and_true, true_and] at e1
      obtain ⟨rfl, rfl⟩ := e1
      exact hK w' bL cL ap
    · refine wpList_append_grows w hg s x t hop e i z 2 bytes h1 h2 h3 h4 h5 h6 (by decide) _ n cL (cur.toList.take (n * 2)) hs (fun e => by cases e) (by simp; omega) (fun b hb' j q hj => ?_) ad 1 c [u, v] hx rfl hnews hone (by omega) b1 b2 ?_
      · simp only [Option.some.injEq] at hb'
        subst hb'
        rw [List.getElem?_take] at hj
        split at hj
        · rw [Addr.add_lit]
          simpa [World.cell?, hb] using hj
        · cases hj
      · intro v' w' hown hgr
        obtain ⟨bL', cL', rfl, ap⟩ := apd2_of_owns (cur := cur) (bL := bL) (cL := cL) (n := n) (by omega) (fun _ => hb) hown hgr (fun g hg => Or.inr ⟨(hown.lt g hg).1, rfl⟩)
        exact hK w' bL' cL' ap
end Go.Proofs.YtcnmfljpmpgnjaaGreatDoor
