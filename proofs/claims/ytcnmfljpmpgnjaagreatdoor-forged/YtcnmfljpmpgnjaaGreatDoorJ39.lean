import Derived.Test.YtcnmfljpmpgnjaaGreatDoorJ38
namespace Go.Proofs.YtcnmfljpmpgnjaaGreatDoor
namespace Tm

theorem freeFrom_at (l : List Sl) (k : Nat) (hk : k < l.length) (hb : ∀ i, i < k → (l.getD i sl0).ob ≠ 0) (h0 : (l.getD k sl0).ob = 0) (hg : (l.getD k sl0).gen < 50) (z : Int) : freeFrom l z = z + (k : Int) := by
  induction l generalizing k z with
  | nil => simp at hk
  | cons s l ih =>
    cases k with
    | zero =>
      simp only [List.getD_cons_zero] at h0 hg
      rw [freeFrom, if_pos ⟨h0, hg⟩]; simp
    | succ k =>
      have := hb 0 (by omega)
      simp only [List.getD_cons_zero] at this
      rw [freeFrom, if_neg (fun q => this q.1), ih k (by simpa using hk) (fun i hi => by have := hb (i + 1) (by omega); simpa using this) (by simpa using h0) (by simpa using hg)]
      push_cast; omega

/-- An object of Named's. -/
def nob (x : Int × Bool) : Ob := ⟨[], [], 0, x.1, false⟩
/-- How many of them are held. -/
def nheld : List (Int × Bool) → Nat
  | [] => 0
  | x :: l => (if x.2 then 1 else 0) + nheld l
theorem nheld_append (l r : List (Int × Bool)) : nheld (l ++ r) = nheld l + nheld r := by
  induction l with
  | nil => simp [nheld]
  | cons x l ih => simp only [List.cons_append, nheld, ih]; omega
theorem nheld_le (l : List (Int × Bool)) : nheld l ≤ l.length := by
  induction l with
  | nil => exact Nat.le_refl _
  | cons x l ih => simp only [nheld, List.length_cons]; split <;> omega

/-- A heap of Named's, ahead of its first collection: os: the names of what was made, and whether it is held; ho: the places of the held ones among them, slot by slot. -/
structure Nd (h : H) (os : List (Int × Bool)) (ho : List Nat) : Prop where
  room : h.room = 200
  l : h.l = ⟨[1, 2, 2], [5, 0, 0], 0, -1, true⟩ :: os.map nob
  few : os.length ≤ 12
  nn : ∀ j, j < os.length → 0 ≤ (os.getD j (0, false)).1
  tl : (h.t 1).length = 16
  hol : ho.length ≤ os.length
  held : ∀ i, i < ho.length → (h.sl 1 i).ob = (ho.getD i 0 : Int) + 2 ∧ ho.getD i 0 < os.length ∧ 1 ≤ (h.sl 1 i).gen
  who : ∀ j, j < os.length → ((os.getD j (0, false)).2 = true ↔ j ∈ ho)
  nodup : ho.Nodup
  empty : ∀ i, ho.length ≤ i → (h.sl 1 i).ob = 0
  gens : ∀ i, 0 ≤ (h.sl 1 i).gen ∧ (h.sl 1 i).gen ≤ (os.length : Int) + 1
  t2 : ∀ i, (h.sl 2 i).ob = 0
  ended : h.ended = []
  frames : h.frames = 1
  cnt : nheld os = ho.length

theorem roomOf_nob (os : List (Int × Bool)) : roomOf (os.map nob) = (os.length : Int) := by
  induction os with
  | nil => rfl
  | cons x os ih => simp only [List.map_cons, roomOf, ih, nob, List.length_nil, List.length_cons]; simp; omega

theorem Nd.roomOf {h : H} {os : List (Int × Bool)} {ho : List Nat} (n : Nd h os ho) : Tm.roomOf h.l = (os.length : Int) := by
  rw [n.l]; simp only [Tm.roomOf, roomOf_nob]; simp

theorem Nd.len {h : H} {os : List (Int × Bool)} {ho : List Nat} (n : Nd h os ho) : h.l.length = os.length + 1 := by rw [n.l]; simp

theorem Nd.free {h : H} {os : List (Int × Bool)} {ho : List Nat} (n : Nd h os ho) : h.free 1 = (ho.length : Int) := by
  have hf := n.few
  have hh := n.hol
  unfold H.free
  rw [freeFrom_at (h.t 1) ho.length (by rw [n.tl]; omega) (fun i hi => by have := (n.held i hi).1; unfold H.sl at this; omega) (n.empty ho.length (Nat.le_refl _)) (by have := (n.gens ho.length).2; unfold H.sl at this; omega) 0]
  omega

/-- Extern, as data: the handle, and the heap behind it. -/
theorem Nd.extern {h : H} {os : List (Int × Bool)} {ho : List Nat} (n : Nd h os ho) (hf : os.length < 12) (M : List Bool) (x : Int) (hx : 0 ≤ x ∧ x ≤ 1000000000) :
    h.extern M x = ((1 + 4 * (ho.length : Int) + 256 * ((h.sl 1 ho.length).gen + 1), fine), (h.grown [] x).setSl 1 ho.length ⟨(h.sl 1 ho.length).gen + 1, (os.length : Int) + 2, 1⟩) := by
  have hr := n.roomOf
  have hfr := n.free
  have hl := n.len
  have e0 : inR x 0 1000000000 = true := by unfold inR; simp; omega
  have e1 : h.roomy M [] = h := by unfold H.roomy; rw [if_neg (by rw [n.room, hr]; simp; omega)]
  have e2 : (h.grown [] x).free 1 = (ho.length : Int) := hfr
  have e3 : (h.grown [] x).sl 1 ho.length = h.sl 1 ho.length := rfl
  have e4 : (h.grown [] x).frames = 1 := n.frames
  unfold H.extern
  rw [if_pos e0]
  unfold H.makeBy
  rw [if_neg (by rw [hfr]; omega), e1, if_neg (by rw [n.room, hr]; simp; omega)]
  unfold H.take
  rw [e2, Int.toNat_natCast, e3, e4, hl]
  simp only [Int.natCast_add, Int.natCast_one]
  rw [show (os.length : Int) + 1 + 1 = (os.length : Int) + 2 from by omega]

theorem nn_snoc {os : List (Int × Bool)} (h : ∀ j, j < os.length → 0 ≤ (os.getD j (0, false)).1) (x : Int × Bool) (hx : 0 ≤ x.1) : ∀ j, j < (os ++ [x]).length → 0 ≤ ((os ++ [x]).getD j (0, false)).1 := fun j hj => by
  simp only [List.length_append, List.length_cons, List.length_nil] at hj
  by_cases e : j = os.length
  · subst e; rw [List.getD_eq_getElem?_getD, List.getElem?_append_right (Nat.le_refl _)]; simpa using hx
  · rw [List.getD_eq_getElem?_getD, List.getElem?_append_left (by omega), ← List.getD_eq_getElem?_getD]; exact h j (by omega)

/-- .. which is held. -/
theorem Nd.hold {h : H} {os : List (Int × Bool)} {ho : List Nat} (n : Nd h os ho) (hf : os.length < 12) (x : Int) (hx : 0 ≤ x) :
    Nd ((h.grown [] x).setSl 1 ho.length ⟨(h.sl 1 ho.length).gen + 1, (os.length : Int) + 2, 1⟩) (os ++ [(x, true)]) (ho ++ [os.length]) := by
  have hh := n.hol
  have hlt : ho.length < ((h.grown [] x).t 1).length := by show ho.length < (h.t 1).length; rw [n.tl]; omega
  have hsl : ∀ k i, ((h.grown [] x).setSl 1 ho.length ⟨(h.sl 1 ho.length).gen + 1, (os.length : Int) + 2, 1⟩).sl k i = if k = 1 ∧ i = ho.length then ⟨(h.sl 1 ho.length).gen + 1, (os.length : Int) + 2, 1⟩ else h.sl k i := fun k i => sl_setSl (h.grown [] x) 1 ho.length k i _ hlt
  have hg := n.gens ho.length
  refine ⟨n.room, ?_, by simp; omega, nn_snoc n.nn (x, true) hx, by rw [len_setSl]; exact n.tl, by simp; omega, fun i hi => ?_, fun j hj => ?_, ?_, fun i hi => ?_, fun i => ?_, fun i => ?_, n.ended, n.frames, by rw [nheld_append, n.cnt]; simp [nheld]⟩
  · show h.l ++ _ = _
    rw [n.l]; simp [nob]
  · rw [hsl]
    simp only [List.length_append, List.length_cons, List.length_nil] at hi
    rw [show (os ++ [(x, true)]).length = os.length + 1 from by simp]
    by_cases e : i = ho.length
    · subst e
      rw [if_pos ⟨rfl, rfl⟩, List.getD_eq_getElem?_getD, List.getElem?_append_right (Nat.le_refl _)]
      simp; omega
    · rw [if_neg (fun q => e q.2), List.getD_eq_getElem?_getD, List.getElem?_append_left (by omega), ← List.getD_eq_getElem?_getD]
      have := n.held i (by omega)
      exact ⟨this.1, by omega, this.2.2⟩
  · simp only [List.length_append, List.length_cons, List.length_nil] at hj
    rw [List.mem_append, List.mem_singleton]
    by_cases e : j = os.length
    · subst e
      rw [List.getD_eq_getElem?_getD, List.getElem?_append_right (Nat.le_refl _)]; simp
    · rw [List.getD_eq_getElem?_getD, List.getElem?_append_left (by omega), ← List.getD_eq_getElem?_getD, n.who j (by omega)]
      exact ⟨Or.inl, fun q => q.resolve_right e⟩
  · refine List.nodup_append.2 ⟨n.nodup, by simp, fun a ha b hb => ?_⟩
    simp only [List.mem_singleton] at hb
    obtain ⟨i, hi⟩ := List.getElem?_of_mem ha
    have hil : i < ho.length := by
      rcases Nat.lt_or_ge i ho.length with q | q
      · exact q
      · rw [List.getElem?_eq_none q] at hi; cases hi
    have := (n.held i hil).2.1
    rw [List.getD_eq_getElem?_getD, hi] at this
    simp at this
    omega
  · simp only [List.length_append, List.length_cons, List.length_nil] at hi
    rw [hsl, if_neg (fun q => by omega)]; exact n.empty i (by omega)
  · rw [hsl]
    simp only [List.length_append, List.length_cons, List.length_nil]
    split
    · simp only; omega
    · have := n.gens i; omega
  · rw [hsl, if_neg (fun q => by omega)]; exact n.t2 i

/-- .. which is freed at once. -/
theorem Nd.let {h : H} {os : List (Int × Bool)} {ho : List Nat} (n : Nd h os ho) (hf : os.length < 12) (x : Int) (hx : 0 ≤ x) :
    ∃ h', ((h.grown [] x).setSl 1 ho.length ⟨(h.sl 1 ho.length).gen + 1, (os.length : Int) + 2, 1⟩).freed (1 + 4 * (ho.length : Int) + 256 * ((h.sl 1 ho.length).gen + 1)) = (fine, h') ∧ Nd h' (os ++ [(x, false)]) ho ∧ ∀ i, i < ho.length → h'.sl 1 i = h.sl 1 i := by
  have hh := n.hol
  have hlt : ho.length < ((h.grown [] x).t 1).length := by show ho.length < (h.t 1).length; rw [n.tl]; omega
  have hg := n.gens ho.length
  obtain ⟨h1, e1⟩ : ∃ h1, (h.grown [] x).setSl 1 ho.length ⟨(h.sl 1 ho.length).gen + 1, (os.length : Int) + 2, 1⟩ = h1 := ⟨_, rfl⟩
  have hsl : ∀ k i, h1.sl k i = if k = 1 ∧ i = ho.length then ⟨(h.sl 1 ho.length).gen + 1, (os.length : Int) + 2, 1⟩ else h.sl k i := fun k i => by rw [← e1]; exact sl_setSl (h.grown [] x) 1 ho.length k i _ hlt
  have ht1 : (h1.t 1).length = 16 := by rw [← e1, len_setSl]; exact n.tl
  obtain ⟨g, eg⟩ : ∃ g, (h.sl 1 ho.length).gen + 1 = g := ⟨_, rfl⟩
  rw [e1, eg]
  rw [eg] at hsl
  have a1 : (1 + 4 * (ho.length : Int) + 256 * g) % 4 = 1 := by omega
  have a2 : (1 + 4 * (ho.length : Int) + 256 * g) / 4 % 64 = (ho.length : Int) := by omega
  have a3 : (1 + 4 * (ho.length : Int) + 256 * g) / 256 = g := by omega
  have hs : h1.slot (1 + 4 * (ho.length : Int) + 256 * g) = (ho.length : Int) := by
    unfold H.slot
    rw [a1, a2, a3, if_neg (by rw [show (1 : Int).toNat = 1 from rfl, ht1]; omega), if_pos (by omega)]
  have hsk : h1.sl 1 ho.length = ⟨g, (os.length : Int) + 2, 1⟩ := by rw [hsl, if_pos ⟨rfl, rfl⟩]
  have hof : h1.of (1 + 4 * (ho.length : Int) + 256 * g) = ((os.length : Int) + 2, fine) := by
    unfold H.of
    rw [if_neg (by omega), hs, if_neg (by omega), a1, a3, show (1 : Int).toNat = 1 from rfl, Int.toNat_natCast, hsk, if_neg (by rintro (q | q); simp only at q; omega; exact q rfl)]
  have hfr : h1.freed (1 + 4 * (ho.length : Int) + 256 * g) = (fine, h1.setSl 1 ho.length ⟨g, 0, 1⟩) := by
    unfold H.freed
    rw [hof, if_neg (by simp [fine]), a1, a2, show (1 : Int).toNat = 1 from rfl, Int.toNat_natCast, hsk]
  have hs2 : ∀ k i, (h1.setSl 1 ho.length ⟨g, 0, 1⟩).sl k i = if k = 1 ∧ i = ho.length then ⟨g, 0, 1⟩ else h.sl k i := fun k i => by
    rw [sl_setSl h1 1 ho.length k i _ (by rw [ht1]; omega)]
    by_cases q : k = 1 ∧ i = ho.length
    · rw [if_pos q, if_pos q]
    · rw [if_neg q, if_neg q, hsl, if_neg q]
  refine ⟨_, hfr, ?_, fun i hi => by rw [hs2, if_neg (fun q => by omega)]⟩
  refine ⟨by rw [← e1]; exact n.room, ?_, by simp; omega, nn_snoc n.nn (x, false) hx, by rw [len_setSl]; exact ht1, by simp; omega, fun i hi => ?_, fun j hj => ?_, n.nodup, fun i hi => ?_, fun i => ?_, fun i => ?_, by rw [← e1]; exact n.ended, by rw [← e1]; exact n.frames, by rw [nheld_append, n.cnt]; simp [nheld]⟩
  · rw [← e1]
    show h.l ++ _ = _
    rw [n.l]; simp [nob]
  · rw [hs2, if_neg (fun q => by omega), show (os ++ [(x, false)]).length = os.length + 1 from by simp]
    have := n.held i hi
    exact ⟨this.1, by omega, this.2.2⟩
  · simp only [List.length_append, List.length_cons, List.length_nil] at hj
    by_cases e : j = os.length
    · subst e
      rw [List.getD_eq_getElem?_getD, List.getElem?_append_right (Nat.le_refl _)]
      refine ⟨fun q => by simp at q, fun q => ?_⟩
      obtain ⟨i, hi⟩ := List.getElem?_of_mem q
      have hil : i < ho.length := by
        rcases Nat.lt_or_ge i ho.length with q | q
        · exact q
        · rw [List.getElem?_eq_none q] at hi; cases hi
      have := (n.held i hil).2.1
      rw [List.getD_eq_getElem?_getD, hi] at this
      simp at this
    · rw [List.getD_eq_getElem?_getD, List.getElem?_append_left (by omega), ← List.getD_eq_getElem?_getD, n.who j (by omega)]
  · rw [hs2]
    split
    · rfl
    · exact n.empty i hi
  · rw [hs2, show (os ++ [(x, false)]).length = os.length + 1 from by simp]
    split
    · simp only; omega
    · have := n.gens i; omega
  · rw [hs2, if_neg (fun q => by omega)]; exact n.t2 i

theorem Nd.at0 {h : H} {os : List (Int × Bool)} {ho : List Nat} (n : Nd h os ho) : h.l.getD 0 ob0 = ⟨[1, 2, 2], [5, 0, 0], 0, -1, true⟩ := by rw [n.l]; rfl
theorem Nd.at {h : H} {os : List (Int × Bool)} {ho : List Nat} (n : Nd h os ho) (j : Nat) (hj : j < os.length) : h.l.getD (j + 1) ob0 = nob (os.getD j (0, false)) := by
  rw [n.l]
  simp [List.getD_eq_getElem?_getD, List.getElem?_eq_getElem hj]

theorem Nd.reach {h : H} {os : List (Int × Bool)} {ho : List Nat} (n : Nd h os ho) {m : Nat} (hr : Reach h m) : m = 0 ∨ ∃ j, j ∈ ho ∧ m = j + 2 := by
  refine hr.only (Q := fun m => m = 0 ∨ ∃ j, j ∈ ho ∧ m = j + 2) (fun m hm => ?_) (fun m q hm he => ?_)
  · rcases hm with ⟨t, i, ht, _, e⟩ | ⟨j, hj, _, hp, hg⟩
    · rcases ht with rfl | rfl
      · rcases Nat.lt_or_ge i ho.length with hi | hi
        · rw [(n.held i hi).1] at e
          exact Or.inr ⟨ho.getD i 0, getD_mem _ _ _ hi, by omega⟩
        · rw [n.empty i hi] at e; exact Or.inl (by omega)
      · rw [n.t2 i] at e; exact Or.inl (by omega)
    · cases j with
      | zero => rw [n.at0] at hg; cases hg
      | succ j =>
        have hl := n.len
        rw [n.at j (by omega)] at hp
        exact absurd hp (by show ¬ ((0 : Int) < 0); omega)
  · obtain ⟨j, x, hj, e, hx, hk, hv, h0⟩ := he
    cases j with
    | zero =>
      rcases hm with q | ⟨j', _, q⟩ <;> omega
    | succ j =>
      have hl := n.len
      rw [n.at j (by omega)] at hx
      simp [nob] at hx

theorem Nd.mark {h : H} {os : List (Int × Bool)} {ho : List Nat} (n : Nd h os ho) {M : List Bool} (m : Marked h M) (j : Nat) (hj : j < os.length) : M.getD (j + 2) false = (os.getD j (0, false)).2 := by
  have hl := n.len
  rw [Bool.eq_iff_iff, n.who j hj, m.2 (j + 2) (by rw [m.1]; omega)]
  constructor
  · intro r
    rcases n.reach r with q | ⟨j', q1, q2⟩
    · omega
    · obtain rfl : j' = j := by omega
      exact q1
  · intro q
    obtain ⟨i, hi⟩ := List.getElem?_of_mem q
    have hil : i < ho.length := by
      rcases Nat.lt_or_ge i ho.length with q | q
      · exact q
      · rw [List.getElem?_eq_none q] at hi; cases hi
    have h1 := (n.held i hil).1
    rw [List.getD_eq_getElem?_getD, hi] at h1
    simp only [Option.getD_some] at h1
    exact Reach.root (Or.inl ⟨1, i, Or.inl rfl, by rw [n.tl]; have := n.hol; have := n.few; omega, by rw [h1]; omega⟩)

/-- The names of those that are held, or not. -/
def namesB (b : Bool) : List (Int × Bool) → List Int
  | [] => []
  | x :: l => (if x.2 = b then [x.1] else []) ++ namesB b l
theorem namesB_snoc (b : Bool) (l : List (Int × Bool)) (x : Int × Bool) : namesB b (l ++ [x]) = namesB b l ++ (if x.2 = b then [x.1] else []) := by
  induction l with
  | nil => simp [namesB]
  | cons y l ih => simp only [List.cons_append, namesB, ih, List.append_assoc]

theorem Nd.names {h : H} {os : List (Int × Bool)} {ho : List Nat} (n : Nd h os ho) {M : List Bool} (m : Marked h M) (i : Nat) (hi : i ≤ os.length) : h.collNames M (i + 1) = namesB false (os.take i) := by
  induction i with
  | zero =>
    unfold H.collNames
    rw [if_neg (fun q => by have := q.1.2; rw [n.at0] at this; cases this)]
    simp [H.collNames, namesB]
  | succ i ih =>
    have hi' : i < os.length := by omega
    unfold H.collNames
    rw [ih (by omega), take_getD os (0, false) i hi', namesB_snoc, n.at i hi', n.mark m i hi']
    have hn := n.nn i hi'
    cases hb : (os.getD i (0, false)).2
    · rw [if_pos ⟨⟨rfl, rfl⟩, hn⟩, if_pos rfl]; rfl
    · rw [if_neg (fun q => by cases q.1.1), if_neg (by simp)]; simp

def nob2 (x : Int × Bool) : Ob := ⟨[], [], 0, x.1, !x.2⟩

/-- .. behind the first collection: the first f of the held ones are freed; en: the names that are to be told. -/
structure Ne (h : H) (os : List (Int × Bool)) (ho : List Nat) (f : Nat) (en : List Int) : Prop where
  l : h.l = ⟨[1, 2, 2], [5, 0, 0], 0, -1, true⟩ :: os.map nob2
  few : os.length ≤ 12
  nn : ∀ j, j < os.length → 0 ≤ (os.getD j (0, false)).1
  tl : (h.t 1).length = 16
  hol : ho.length ≤ os.length
  fl : f ≤ ho.length
  held : ∀ i, f ≤ i → i < ho.length → (h.sl 1 i).ob = (ho.getD i 0 : Int) + 2 ∧ 1 ≤ (h.sl 1 i).gen
  gone : ∀ i, i < f → (h.sl 1 i).ob = 0
  place : ∀ i, i < ho.length → ho.getD i 0 < os.length ∧ (os.getD (ho.getD i 0) (0, false)).2 = true
  empty : ∀ i, ho.length ≤ i → (h.sl 1 i).ob = 0
  gens : ∀ i, 0 ≤ (h.sl 1 i).gen ∧ (h.sl 1 i).gen ≤ 13
  t2 : ∀ i, (h.sl 2 i).ob = 0
  ended : h.ended = en
  cnt : nheld os = ho.length

theorem Nd.coll {h : H} {os : List (Int × Bool)} {ho : List Nat} (n : Nd h os ho) {M : List Bool} (m : Marked h M) : Ne (h.collTo M h.l.length) os ho 0 (namesB false os) := by
  obtain ⟨e1, _, _, _⟩ := collTo_same h M h.l.length
  have hl := collTo_len h M h.l.length
  have hln := n.len
  have hsl : ∀ k i, (h.collTo M h.l.length).sl k i = h.sl k i := fun k i => by unfold H.sl; rw [e1]
  refine ⟨?_, n.few, n.nn, by rw [e1]; exact n.tl, n.hol, Nat.zero_le _, fun i _ hi => by rw [hsl]; exact ⟨(n.held i hi).1, (n.held i hi).2.2⟩, fun i hi => absurd hi (Nat.not_lt_zero _), fun i hi => ⟨(n.held i hi).2.1, (n.who _ (n.held i hi).2.1).2 (getD_mem _ _ _ hi)⟩, fun i hi => by rw [hsl]; exact n.empty i hi, fun i => by rw [hsl]; have := n.gens i; have := n.few; omega, fun i => by rw [hsl]; exact n.t2 i, ?_, n.cnt⟩
  · apply List.ext_getElem?
    intro q
    rcases Nat.lt_or_ge q h.l.length with hq | hq
    · have h1 := at_coll h M q hq
      have hx : (h.collTo M h.l.length).l[q]? = some ((h.collTo M h.l.length).l.getD q ob0) := by
        rw [List.getD_eq_getElem?_getD, List.getElem?_eq_getElem (by rw [hl]; exact hq)]; rfl
      rw [hx, h1]
      cases q with
      | zero => rw [n.at0]; rfl
      | succ q =>
        have hq' : q < os.length := by omega
        rw [n.at q hq', n.mark m q hq']
        simp only [List.getElem?_cons_succ, List.getElem?_map, List.getElem?_eq_getElem hq', Option.map_some]
        simp [nob, nob2, List.getD_eq_getElem?_getD, List.getElem?_eq_getElem hq']
    · rw [List.getElem?_eq_none (by rw [hl]; exact hq), List.getElem?_eq_none (by simp; omega)]
  · rw [collTo_ended, n.ended, hln, n.names m os.length (Nat.le_refl _), List.take_length]; rfl

theorem Ne.len {h : H} {os : List (Int × Bool)} {ho : List Nat} {f : Nat} {en : List Int} (n : Ne h os ho f en) : h.l.length = os.length + 1 := by rw [n.l]; simp
theorem Ne.at0 {h : H} {os : List (Int × Bool)} {ho : List Nat} {f : Nat} {en : List Int} (n : Ne h os ho f en) : h.l.getD 0 ob0 = ⟨[1, 2, 2], [5, 0, 0], 0, -1, true⟩ := by rw [n.l]; rfl
theorem Ne.at {h : H} {os : List (Int × Bool)} {ho : List Nat} {f : Nat} {en : List Int} (n : Ne h os ho f en) (j : Nat) (hj : j < os.length) : h.l.getD (j + 1) ob0 = nob2 (os.getD j (0, false)) := by
  rw [n.l]
  simp [List.getD_eq_getElem?_getD, List.getElem?_eq_getElem hj]

/-- The names are told. -/
theorem Ne.told {h : H} {os : List (Int × Bool)} {ho : List Nat} {f : Nat} {en : List Int} (n : Ne h os ho f en) : Ne h.told os ho f [] :=
  ⟨n.l, n.few, n.nn, n.tl, n.hol, n.fl, n.held, n.gone, n.place, n.empty, n.gens, n.t2, rfl, n.cnt⟩

/-- A held one is freed. -/
theorem Ne.free {h : H} {os : List (Int × Bool)} {ho : List Nat} {f : Nat} {en : List Int} (n : Ne h os ho f en) (hf : f < ho.length) :
    ∃ h', h.freed (1 + 4 * (f : Int) + 256 * (h.sl 1 f).gen) = (fine, h') ∧ Ne h' os ho (f + 1) en ∧ ∀ i, f < i → h'.sl 1 i = h.sl 1 i := by
  have hh := n.hol
  have hw := n.few
  have hg := n.gens f
  have h1 := n.held f (Nat.le_refl _) hf
  obtain ⟨g, eg⟩ : ∃ g, (h.sl 1 f).gen = g := ⟨_, rfl⟩
  rw [eg] at hg h1
  rw [eg]
  have a1 : (1 + 4 * (f : Int) + 256 * g) % 4 = 1 := by omega
  have a2 : (1 + 4 * (f : Int) + 256 * g) / 4 % 64 = (f : Int) := by omega
  have a3 : (1 + 4 * (f : Int) + 256 * g) / 256 = g := by omega
  have hs : h.slot (1 + 4 * (f : Int) + 256 * g) = (f : Int) := by
    unfold H.slot
    rw [a1, a2, a3, if_neg (by rw [show (1 : Int).toNat = 1 from rfl, n.tl]; omega), if_pos (by omega)]
  have hof : h.of (1 + 4 * (f : Int) + 256 * g) = ((h.sl 1 f).ob, fine) := by
    unfold H.of
    rw [if_neg (by omega), hs, if_neg (by omega), a1, a3, show (1 : Int).toNat = 1 from rfl, Int.toNat_natCast, if_neg (by rintro (q | q); omega; exact q eg)]
  have hfr : h.freed (1 + 4 * (f : Int) + 256 * g) = (fine, h.setSl 1 f { h.sl 1 f with ob := 0 }) := by
    unfold H.freed
    rw [hof, if_neg (by simp [fine]), a1, a2, show (1 : Int).toNat = 1 from rfl, Int.toNat_natCast]
  have hs2 : ∀ k i, (h.setSl 1 f { h.sl 1 f with ob := 0 }).sl k i = if k = 1 ∧ i = f then { h.sl 1 f with ob := 0 } else h.sl k i := fun k i => sl_setSl h 1 f k i _ (by rw [n.tl]; omega)
  refine ⟨_, hfr, ⟨n.l, n.few, n.nn, by rw [len_setSl]; exact n.tl, n.hol, hf, fun i h2 h3 => ?_, fun i hi => ?_, n.place, fun i hi => ?_, fun i => ?_, fun i => ?_, n.ended, n.cnt⟩, fun i hi => ?_⟩
  · rw [hs2, if_neg (fun q => by omega)]; exact n.held i (by omega) h3
  · rw [hs2]
    split
    · rfl
    · rename_i q; exact n.gone i (by have : i ≠ f := fun e => q ⟨rfl, e⟩; omega)
  · rw [hs2, if_neg (fun q => by omega)]; exact n.empty i hi
  · rw [hs2]
    split
    · exact n.gens f
    · exact n.gens i
  · rw [hs2, if_neg (fun q => by omega)]; exact n.t2 i
  · rw [hs2, if_neg (fun q => by omega)]

theorem Ne.reach {h : H} {os : List (Int × Bool)} {ho : List Nat} {en : List Int} (n : Ne h os ho ho.length en) {m : Nat} (hr : Reach h m) : m = 0 := by
  refine hr.only (Q := fun m => m = 0) (fun m hm => ?_) (fun m q hm he => ?_)
  · rcases hm with ⟨t, i, ht, _, e⟩ | ⟨j, hj, _, hp, hg⟩
    · rcases ht with rfl | rfl
      · rcases Nat.lt_or_ge i ho.length with hi | hi
        · rw [n.gone i hi] at e; omega
        · rw [n.empty i hi] at e; omega
      · rw [n.t2 i] at e; omega
    · cases j with
      | zero => rw [n.at0] at hg; cases hg
      | succ j =>
        have hl := n.len
        rw [n.at j (by omega)] at hp
        exact absurd hp (by show ¬ ((0 : Int) < 0); omega)
  · obtain ⟨j, x, hj, e, _⟩ := he
    omega

/-- The last collection: all that were held end, and are told. -/
theorem Ne.coll {h : H} {os : List (Int × Bool)} {ho : List Nat} {en : List Int} (n : Ne h os ho ho.length en) {M : List Bool} (m : Marked h M) : h.collNum M h.l.length = (ho.length : Int) ∧ (h.collTo M h.l.length).ended = en ++ namesB true os := by
  have hln := n.len
  have hM : ∀ j, j < os.length → M.getD (j + 2) false = false := fun j hj => m.not (by rw [m.1]; omega) (fun r => by have := n.reach r; omega)
  have key : ∀ i, i ≤ os.length → h.collNum M (i + 1) = (nheld (os.take i) : Int) ∧ h.collNames M (i + 1) = namesB true (os.take i) := fun i => by
    induction i with
    | zero =>
      intro _
      unfold H.collNum H.collNames
      have h0 : ¬ (h.l.getD 0 ob0).gone = false := by rw [n.at0]; simp
      rw [if_neg (fun q => h0 q.2), if_neg (fun q => h0 q.1.2)]
      simp [H.collNum, H.collNames, nheld, namesB]
    | succ i ih =>
      intro hi
      have hi' : i < os.length := by omega
      obtain ⟨ih1, ih2⟩ := ih (by omega)
      have hn := n.nn i hi'
      unfold H.collNum H.collNames
      rw [ih1, ih2, take_getD os (0, false) i hi', namesB_snoc, nheld_append, n.at i hi', hM i hi']
      cases hb : (os.getD i (0, false)).2
      · have hg : ¬ (nob2 (os.getD i (0, false))).gone = false := by simp only [nob2]; rw [hb]; simp
        rw [if_neg (fun q => hg q.2), if_neg (fun q => hg q.1.2)]
        simp only [nheld, hb]
        simp
      · have hg : (nob2 (os.getD i (0, false))).gone = false := by simp only [nob2]; rw [hb]; rfl
        rw [if_pos ⟨rfl, hg⟩, if_pos ⟨⟨rfl, hg⟩, hn⟩]
        simp only [nheld, hb, if_true]
        refine ⟨by omega, rfl⟩
  obtain ⟨k1, k2⟩ := key os.length (Nat.le_refl _)
  rw [List.take_length] at k1 k2
  rw [collTo_ended, hln, k1, k2, n.ended, n.cnt]
  exact ⟨rfl, rfl⟩
end Tm
end Go.Proofs.YtcnmfljpmpgnjaaGreatDoor
