import Derived.Test.YtcnmfljpmpgnjaaGreatDoorJ11
namespace Go.Proofs.YtcnmfljpmpgnjaaGreatDoor
open Go.RowKit Go.Maps
open Tm (H Ob Sl Why)

/-- What the first n references of an object are to. -/
def refsTo (o : Ob) : Nat → List Int
  | 0 => []
  | n + 1 => refsTo o n ++ (if o.kinds.getD n 0 = 2 ∧ o.vals.getD n 0 ≠ 0 then [o.vals.getD n 0] else [])
theorem refsTo_len (o : Ob) (n : Nat) : (refsTo o n).length ≤ n := by
  induction n with
  | zero => simp [refsTo]
  | succ n ih => simp only [refsTo, List.length_append]; split <;> simp <;> omega
theorem mem_refsTo (o : Ob) (n : Nat) (x : Int) : x ∈ refsTo o n ↔ ∃ q, q < n ∧ o.kinds.getD q 0 = 2 ∧ o.vals.getD q 0 = x ∧ x ≠ 0 := by
  induction n with
  | zero => simp [refsTo]
  | succ n ih =>
    simp only [refsTo, List.mem_append, ih]
    constructor
    · rintro (⟨q, h1, h2, h3, h4⟩ | h)
      · exact ⟨q, by omega, h2, h3, h4⟩
      · split at h
        · rename_i e
          simp only [List.mem_singleton] at h
          exact ⟨n, by omega, e.1, h.symm, by rw [h]; exact e.2⟩
        · simp at h
    · rintro ⟨q, h1, h2, h3, h4⟩
      by_cases e : q = n
      · subst e; right; rw [if_pos ⟨h2, by rw [h3]; exact h4⟩, h3]; simp
      · left; exact ⟨q, by omega, h2, h3, h4⟩

/-- What is held by the first n slots of a table. -/
def heldTo (l : List Sl) : Nat → List Int
  | 0 => []
  | n + 1 => heldTo l n ++ (if (l.getD n Tm.sl0).ob ≠ 0 then [(l.getD n Tm.sl0).ob] else [])
theorem heldTo_len (l : List Sl) (n : Nat) : (heldTo l n).length ≤ n := by
  induction n with
  | zero => simp [heldTo]
  | succ n ih => simp only [heldTo, List.length_append]; split <;> simp <;> omega
theorem mem_heldTo (l : List Sl) (n : Nat) (x : Int) : x ∈ heldTo l n ↔ ∃ i, i < n ∧ (l.getD i Tm.sl0).ob = x ∧ x ≠ 0 := by
  induction n with
  | zero => simp [heldTo]
  | succ n ih =>
    simp only [heldTo, List.mem_append, ih]
    constructor
    · rintro (⟨q, h1, h2, h3⟩ | h)
      · exact ⟨q, by omega, h2, h3⟩
      · split at h
        · rename_i e
          simp only [List.mem_singleton] at h
          exact ⟨n, by omega, h.symm, by rw [h]; exact e⟩
        · simp at h
    · rintro ⟨q, h1, h2, h3⟩
      by_cases e : q = n
      · subst e; right; rw [if_pos (by rw [h2]; exact h3), h2]; simp
      · left; exact ⟨q, by omega, h2, h3⟩
theorem taken_held (l : List Sl) (n : Nat) (hn : n ≤ l.length) : ((heldTo l n).length : Int) = Tm.takenOf (l.take n) := by
  induction n with
  | zero => simp [heldTo, Tm.takenOf]
  | succ n ih =>
    rw [Tm.take_getD l Tm.sl0 n (by omega), Tm.takenOf_append, ← ih (by omega)]
    simp only [heldTo, List.length_append, Tm.takenOf]
    by_cases e : (l.getD n Tm.sl0).ob = 0
    · rw [if_neg (by simpa using e), if_pos e]; simp
    · rw [if_pos (by simpa using e), if_neg e]; simp

/-- A list of numbers comes back, in new memory, not nil. -/
def ListBack (w : World) (zs : List Int) (e : Ending) (w' : World) : Prop := ∃ g cap, e = .returned (.slice (some ⟨g, 0, none⟩) zs.length cap) ∧ IRow w.heap.size w' (some ⟨g, 0, none⟩) cap zs ∧ Below w.heap.size w w'

theorem below_own {w w1 w2 : World} (hb : Below w.heap.size w w1) {p : Option Addr} {n cap : Nat} (hp : ∀ a, p = some a → w.heap.size ≤ a.block) (g : w1.grownBy w2 (Value.slice p n cap).ownBlock) : Below w.heap.size w w2 :=
  ⟨g.os.trans hb.os, g.tape.trans hb.tape, g.output.trans hb.output, Nat.le_trans hb.size g.size, fun k hk => (g.block k (Nat.lt_of_lt_of_le hk hb.size) (by
    intro e
    obtain ⟨a, q1, q2⟩ := IRow.own e.symm
    have := hp a q1
    omega)).trans (hb.block k hk)⟩

set_option maxRecDepth 100000 in
set_option maxHeartbeats 2000000 in
theorem references_any {S : Nat → Prop} {tag : Nat → Nat × Nat} {w : World} {b j fb : Nat} {o : Ob} (h : OAt S tag w b j fb o) (hl : o.kinds.length ≤ 32) (hS : ∀ b, S b → b < w.heap.size) :
    Calls Tryz.prog 156 #[.pointer (some ⟨b, 0, none⟩)] w (ListBack w (refsTo o o.kinds.length)) := by
  obtain ⟨p, c, h1, h2⟩ := h.head
  have HK := hide h.kind
  have HV := hide h.val
  have H2 := hide h2
  have hbl := hS _ h.s
  clear h2 h
  go_enter Tryz.func156, Tryz.ntmps156
  go_wp2_with fail
  go_loopw [3, 12] (fun tv iv wr => ∃ i g cap : Nat, i ≤ o.kinds.length ∧ iv = .int .i64 i ∧ tv = .slice (some ⟨g, 0, none⟩) (refsTo o i).length cap ∧ IRow w.heap.size wr (some ⟨g, 0, none⟩) cap (refsTo o i) ∧ Below w.heap.size w wr) (fun _ iv _ => o.kinds.length - (intOf iv).toNat)
  case atStart =>
    refine ⟨0, w.heap.size, 0, by omega, rfl, rfl, ?_, Below.alloc0 _ _⟩
    exact IRow.empty _ (Nat.le_refl _) (by simpa using heap_alloc_new w (.cells #[] 3))
  case round =>
    obtain ⟨i, g, cap, hi, rfl, rfl, hrow, hbl'⟩ := hrel
    have HI := hide hrow
    have HBl := hide hbl'
    have hgl := (hrow.lt rfl).2
    have hlen := refsTo_len o i
    have hsz := hbl'.size
    by_cases hlt : i < o.kinds.length
    · have bi : (i : Int) < (o.kinds.length : Int) := by omega
      obtain ⟨rfl, hSf, _⟩ := H2.out (by omega)
      have hfl := hS _ hSf
      have ck : wr.cell? ⟨fb, i * 2, none⟩ = some (.int .i64 (o.kinds.getD i 0)) := by rw [hbl'.cell hfl]; exact HK.out i hlt
      have cv : wr.cell? ⟨fb, i * 2 + 1, none⟩ = some (.int .i64 (o.vals.getD i 0)) := by rw [hbl'.cell hfl]; exact HV.out i hlt
      have HN : Hid (refsTo o (i + 1) = refsTo o i ++ (if o.kinds.getD i 0 = 2 ∧ o.vals.getD i 0 ≠ 0 then [o.vals.getD i 0] else [])) := rfl
      clear hrow hbl'
      generalize o.kinds.getD i 0 = kd at *
      generalize o.vals.getD i 0 = vl at *
      by_cases c1 : kd = 2
      · subst c1
        by_cases c2 : vl = 0
        · subst c2
          go_wp2_with fail
          go_roundw
          case rel =>
            refine ⟨i + 1, g, cap, by omega, by go_num, by rw [HN.out]; simp, ?_, ?_⟩
            · rw [HN.out]; simp only [ne_eq, not_true_eq_false, and_false, if_false, List.append_nil]
              refine HI.out.block (fun a ha => ?_)
              cases ha
              refine Below.block (B := wr.heap.size) ?_ _ hgl
              repeat (first | exact Below.alloc0 _ _ | refine Below.setCell ?_ (by simp) _ | refine Below.alloc ?_ (by simp) _)
            · refine HBl.out.trans (Below.mono (B := wr.heap.size) ?_ hsz)
              repeat (first | exact Below.alloc0 _ _ | refine Below.setCell ?_ (by simp) _ | refine Below.alloc ?_ (by simp) _)
          case measure => simp [intOf]; omega
        · have c2' : (vl != 0) = true := by simpa using c2
          go_wp2_with (first
            | (at_builtin; refine wpList_append_ints _ rfl _ _ rfl w.heap.size (some ⟨g, 0, none⟩) cap (refsTo o i) _ rfl rfl ?own _ 1 1 [vl] rfl rfl ?cell (by omega) (by simp; omega) ?_)
            | fail)
          case own =>
            refine HI.out.block (fun a ha => ?_)
            cases ha
            refine Below.block (B := wr.heap.size) ?_ _ hgl
            repeat (first | exact Below.alloc0 _ _ | refine Below.setCell ?_ (by simp) _ | refine Below.alloc ?_ (by simp; try omega) _)
          intro p' cap' w' hrow' hgr hnn hloc
          obtain ⟨g', rfl⟩ : ∃ g', p' = some ⟨g', 0, none⟩ := by
            obtain ⟨g', e, _⟩ := hrow'.at (Or.inr hnn)
            exact ⟨g', e⟩
          have HRow := hide hrow'
          have HB1 : Hid (Below w.heap.size w w') := by
            refine below_own (w1 := (wr.alloc _).alloc _) ?_ (fun a ha => ?_) hgr
            · refine HBl.out.trans (Below.mono (B := wr.heap.size) ?_ hsz)
              exact (Below.alloc0 _ _).trans ((Below.refl _ _).alloc (by simp) _)
            · cases ha; exact (HI.out.lt rfl).1
          clear hrow' hgr hloc hnn
          go_wp2_with fail
          go_roundw
          case rel =>
            have e2 : refsTo o (i + 1) = refsTo o i ++ [vl] := by rw [HN.out]; simp [c2]
            exact ⟨i + 1, g', cap', by omega, by go_num, by rw [e2]; simp, by rw [e2]; exact HRow.out, HB1.out⟩
          case measure => simp [intOf]; omega
      · have c1' : (kd == 2) = false := by simpa using c1
        go_wp2_with fail
        go_roundw
        case rel =>
          refine ⟨i + 1, g, cap, by omega, by go_num, by rw [HN.out]; simp [c1], ?_, ?_⟩
          · rw [HN.out]; simp only [c1, false_and, if_false, List.append_nil]
            refine HI.out.block (fun a ha => ?_)
            cases ha
            refine Below.block (B := wr.heap.size) ?_ _ hgl
            repeat (first | exact Below.alloc0 _ _ | refine Below.setCell ?_ (by simp) _ | refine Below.alloc ?_ (by simp) _)
          · refine HBl.out.trans (Below.mono (B := wr.heap.size) ?_ hsz)
            repeat (first | exact Below.alloc0 _ _ | refine Below.setCell ?_ (by simp) _ | refine Below.alloc ?_ (by simp) _)
        case measure => simp [intOf]; omega
    · have bi : ¬ (i : Int) < (o.kinds.length : Int) := by omega
      have ei : i = o.kinds.length := by omega
      have HEi := hide ei
      clear ei
      go_wp2_with fail
      go_ret
      exact ⟨g, cap, by rw [← HEi.out]; rfl, by rw [← HEi.out]; exact HI.out, HBl.out⟩
end Go.Proofs.YtcnmfljpmpgnjaaGreatDoor

namespace Go.Proofs.YtcnmfljpmpgnjaaGreatDoor
open Go.RowKit Go.Maps
open Tm (H Ob Sl Why)

/-- Keys of some of the first N. -/
structure KeysD (D : DataW Unit) (N : Nat) : Prop where
  tidy : Tidy D
  ok : KeysOK D
  only : ∀ kl, Maps.has D kl = true → ∃ j, j < N ∧ kl = key j

theorem KeysD.size {N : Nat} : ∀ {D : DataW Unit}, KeysD D N → Maps.size D = cnt (fun j => Maps.has D (key j)) N := by
  induction N with
  | zero =>
    intro D h
    obtain ⟨es, rfl, _⟩ := h.tidy
    cases es with
    | nil => rfl
    | cons p es =>
      have h2 : Maps.has (DataW.map (p :: es)) p.1 = true := by
        simp only [Maps.has_eq, List.any_cons]
        rw [WideAt.sameKey_self (h.ok _ rfl p (List.mem_cons_self ..))]; rfl
      obtain ⟨j, hj, _⟩ := h.only p.1 h2
      omega
  | succ N ih =>
    intro D h
    have h2 : KeysD (D.del (key N)) N := by
      refine ⟨h.tidy.del _, h.ok.del h.tidy.isMap _, fun kl hk => ?_⟩
      by_cases e : kl = key N
      · subst e; rw [has_del_same] at hk; cases hk
      · rw [has_del_other e] at hk
        obtain ⟨j, h1, h3⟩ := h.only kl hk
        have : j ≠ N := fun e2 => e (by rw [h3, e2])
        exact ⟨j, by omega, h3⟩
    have h3 := Maps.size_del (k := key N) h.tidy
    rw [ih h2] at h3
    simp only [cnt]
    rw [← h3, cnt_congr (al := fun j => Maps.has (D.del (key N)) (key j)) (al' := fun j => Maps.has D (key j)) N (fun j hj => has_del_other (fun e => by have := key_inj e; omega))]

theorem cnt_mono (al al' : Nat → Bool) (n : Nat) (h : ∀ j, j < n → al j = true → al' j = true) : cnt al n ≤ cnt al' n := by
  induction n with
  | zero => exact Nat.le_refl _
  | succ n ih =>
    have h1 := ih (fun j hj => h j (by omega))
    have h2 := h n (by omega)
    simp only [cnt]
    by_cases e : al n = true
    · rw [if_pos e, if_pos (h2 e)]; omega
    · rw [if_neg e]; omega
theorem cnt_mono_lt (al al' : Nat → Bool) (n i : Nat) (hi : i < n) (h : ∀ j, j < n → al j = true → al' j = true) (h1 : al i = false) (h2 : al' i = true) : cnt al n < cnt al' n := by
  induction n with
  | zero => omega
  | succ n ih =>
    simp only [cnt]
    by_cases e : i = n
    · subst e; have := cnt_mono al al' i (fun j hj => h j (by omega)); rw [h1, h2]; simp; omega
    · have := ih (by omega) (fun j hj => h j (by omega))
      have h3 := h n (by omega)
      by_cases e : al n = true
      · rw [if_pos e, if_pos (h3 e)]; omega
      · rw [if_neg e]; omega

theorem KeysD.put {D : DataW Unit} {N : Nat} (h : KeysD D N) (j : Nat) (hj : j < N) (d : DataW Unit) (hok : KeysOK (D.put (key j) d)) : KeysD (D.put (key j) d) N := by
  refine ⟨h.tidy.put (key_is j) _, hok, fun kl hk => ?_⟩
  by_cases e : kl = key j
  · exact ⟨j, hj, e⟩
  · rw [has_put_other e] at hk; exact h.only kl hk

theorem ownsMap_keysU {P : Program} {k : TypeId} {w : World} {b n : Nat} {D : DataW Unit} (h : w.ownsMap P k unitElem b n D) (K : Keyed P k) : KeysOK D := by
  obtain ⟨es, rfl, _, h2⟩ := h.entries K
  intro es' e; cases e; exact h2

def mapSize (w : World) (b : Nat) : Nat := match w.heap[b]? with
  | some (.map es _) => es.size
  | _ => 0
theorem mapSize_eq {P : Program} {k : TypeId} {R : Value → Option (DataW Unit × List MemPlace)} {w : World} {b n : Nat} {D : DataW Unit} (h : w.ownsMap P k R b n D) : mapSize w b = Maps.size D := by
  obtain ⟨es, c, hb, F, hs, rfl⟩ := h
  simp [mapSize, hb, Maps.size, length_sorted]

/-- To whom one comes from some. -/
def FromZ (h : H) (zs : List Int) (n : Nat) : Prop := ∀ P : Nat → Prop, (∀ x ∈ zs, P x.toNat) → (∀ m k, P m → Tm.Edge h m k → P k) → P n
theorem FromZ.edge {h : H} {zs : List Int} {m n : Nat} (r : FromZ h zs m) (e : Tm.Edge h m n) : FromZ h zs n := fun P h1 h2 => h2 m n (r P h1 h2) e
theorem FromZ.root {h : H} {zs : List Int} {x : Int} (hx : x ∈ zs) : FromZ h zs x.toNat := fun _ h1 _ => h1 x hx

/-- How far the search has come: D: where it was; ahead: where it is still to go. -/
structure Search (h : H) (zs : List Int) (D : DataW Unit) (ahead : List Int) : Prop where
  keys : KeysD D h.l.length
  come : ∀ j, j < h.l.length → Maps.has D (key j) = true → FromZ h zs (j + 1)
  ahd : ∀ x ∈ ahead, ∃ j, j < h.l.length ∧ alive h j = true ∧ x = (j : Int) + 1 ∧ FromZ h zs (j + 1)
  roots : ∀ x ∈ zs, Maps.has D (.int .i64 x) = true ∨ x ∈ ahead
  closed : ∀ j k : Nat, j < h.l.length → Maps.has D (key j) = true → Tm.Edge h (j + 1) k → Maps.has D (.int .i64 (k : Int)) = true ∨ (k : Int) ∈ ahead
  alv : ∀ j, j < h.l.length → Maps.has D (key j) = true → alive h j = true
  len : ahead.length + 33 * (cnt (alive h) h.l.length - Maps.size D) ≤ 33 * cnt (alive h) h.l.length + zs.length

theorem Search.start (h : H) (zs : List Int) (hr : ∀ x ∈ zs, ∃ j, j < h.l.length ∧ alive h j = true ∧ x = (j : Int) + 1) : Search h zs (.map []) zs := by
  refine ⟨⟨tidy_empty, fun es e p hp => ?_, fun kl hk => ?_⟩, fun j hj hk => ?_, fun x hx => ?_, fun x hx => Or.inr hx, fun j k hj hk => ?_, fun j hj hk => ?_, ?_⟩
  · cases e; simp at hp
  · simp [Maps.has] at hk
  · simp [Maps.has] at hk
  · obtain ⟨j, h1, h2, h3⟩ := hr x hx
    refine ⟨j, h1, h2, h3, ?_⟩
    have := FromZ.root (h := h) hx
    rw [h3, show ((j : Int) + 1).toNat = j + 1 from by omega] at this
    exact this
  · simp [Maps.has] at hk
  · simp [Maps.has] at hk
  · simp only [Maps.size, List.length_nil]; omega

theorem take_last {zs : List Int} {n : Nat} (hn : n + 1 = zs.length) : zs = zs.take n ++ [zs.getD n 0] := by
  rw [← Tm.take_getD zs 0 n (by omega), hn, List.take_length]

theorem mem_take_last {zs : List Int} {n : Nat} (hn : n + 1 = zs.length) {x : Int} (hx : x ∈ zs) : x ∈ zs.take n ∨ x = zs.getD n 0 := by
  rw [take_last hn] at hx
  simpa using hx

theorem Search.seen {h : H} {zs ahead : List Int} {D : DataW Unit} (s : Search h zs D ahead) (n j : Nat) (hn : n + 1 = ahead.length) (hj : ahead.getD n 0 = (j : Int) + 1) (hk : Maps.has D (key j) = true) : Search h zs D (ahead.take n) := by
  refine ⟨s.keys, s.come, fun x hx => s.ahd x (List.mem_of_mem_take hx), fun x hx => ?_, fun i k hi hk' he => ?_, s.alv, ?_⟩
  · rcases s.roots x hx with h1 | h1
    · exact Or.inl h1
    · rcases mem_take_last hn h1 with h2 | h2
      · exact Or.inr h2
      · exact Or.inl (by rw [h2, hj]; exact hk)
  · rcases s.closed i k hi hk' he with h1 | h1
    · exact Or.inl h1
    · rcases mem_take_last hn h1 with h2 | h2
      · exact Or.inr h2
      · exact Or.inl (by rw [h2, hj]; exact hk)
  · have := s.len
    rw [List.length_take]
    omega

theorem Search.step {h : H} {zs ahead : List Int} {D : DataW Unit} (g : Tm.Good h) (s : Search h zs D ahead) (n j : Nat) (hn : n + 1 = ahead.length) (hj : ahead.getD n 0 = (j : Int) + 1) (hjl : j < h.l.length) (hja : alive h j = true) (hz : FromZ h zs (j + 1)) (hk : Maps.has D (key j) = false) (d : DataW Unit) (hok : KeysOK (D.put (key j) d)) :
    Search h zs (D.put (key j) d) (ahead.take n ++ refsTo (h.l.getD j Tm.ob0) (h.l.getD j Tm.ob0).kinds.length) ∧ Maps.size (D.put (key j) d) = Maps.size D + 1 ∧ Maps.size D < cnt (alive h) h.l.length := by
  have hsz : Maps.size (D.put (key j) d) = Maps.size D + 1 := by rw [size_put s.keys.tidy, hk]; rfl
  have hlt : Maps.size D < cnt (alive h) h.l.length := by rw [s.keys.size]; exact cnt_mono_lt _ _ _ j hjl s.alv hk hja
  have hhas : ∀ kl, Maps.has D kl = true → Maps.has (D.put (key j) d) kl = true := fun kl h1 => by
    by_cases e : kl = key j
    · subst e; exact has_put_same s.keys.tidy.isMap (key_is j) _
    · rw [has_put_other e]; exact h1
  have hself := has_put_same (k := key j) s.keys.tidy.isMap (key_is j) d
  refine ⟨⟨s.keys.put j hjl d hok, fun i hi h1 => ?_, fun x hx => ?_, fun x hx => ?_, fun i k hi h1 he => ?_, fun i hi h1 => ?_, ?_⟩, hsz, hlt⟩
  · by_cases e : i = j
    · subst e; exact hz
    · rw [has_put_other (fun e2 => e (key_inj e2))] at h1; exact s.come i hi h1
  · rcases List.mem_append.1 hx with h1 | h1
    · exact s.ahd x (List.mem_of_mem_take h1)
    · obtain ⟨q, q1, q2, q3, q4⟩ := (mem_refsTo _ _ _).1 h1
      have hb := g.bound j q hjl q1 q2
      rw [q3] at hb
      have hg := g.refs j q hjl (by unfold alive at hja; simpa using hja) q1 q2 (by rw [q3]; exact q4)
      rw [q3] at hg
      obtain ⟨i, hi, rfl⟩ := key_at (show 0 < x by omega) hb.2
      refine ⟨i, hi, ?_, rfl, hz.edge ⟨j, q, hjl, rfl, q1, q2, by rw [q3]; omega, by omega⟩⟩
      rw [ob_succ] at hg
      unfold alive; rw [hg]; rfl
  · rcases s.roots x hx with h1 | h1
    · exact Or.inl (hhas _ h1)
    · rcases mem_take_last hn h1 with h2 | h2
      · exact Or.inr (List.mem_append_left _ h2)
      · exact Or.inl (by rw [h2, hj]; exact hself)
  · by_cases e : i = j
    · subst e
      obtain ⟨j', q, q0, q1, q2, q3, q4, q5⟩ := he
      obtain rfl : j' = i := by omega
      exact Or.inr (List.mem_append_right _ ((mem_refsTo _ _ _).2 ⟨q, q2, q3, q4, by omega⟩))
    · rw [has_put_other (fun e2 => e (key_inj e2))] at h1
      rcases s.closed i k hi h1 he with h2 | h2
      · exact Or.inl (hhas _ h2)
      · rcases mem_take_last hn h2 with h3 | h3
        · exact Or.inr (List.mem_append_left _ h3)
        · exact Or.inl (by rw [h3, hj]; exact hself)
  · by_cases e : i = j
    · subst e; exact hja
    · rw [has_put_other (fun e2 => e (key_inj e2))] at h1; exact s.alv i hi h1
  · have := s.len
    have hr := refsTo_len (h.l.getD j Tm.ob0) (h.l.getD j Tm.ob0).kinds.length
    have h32 := (g.eq j hjl).2
    rw [List.length_append, List.length_take, hsz]
    omega

/-- The search is over: it was where one comes. -/
theorem Search.over {h : H} {zs : List Int} {D : DataW Unit} (s : Search h zs D []) (hz : ∀ x ∈ zs, 0 < x) (j : Nat) (hj : j < h.l.length) : Maps.has D (key j) = true ↔ FromZ h zs (j + 1) := by
  refine ⟨s.come j hj, fun hf => ?_⟩
  have := hf (fun m => ∃ i, m = i + 1 ∧ Maps.has D (key i) = true) (fun x hx => ?_) (fun m k hm he => ?_)
  · obtain ⟨i, e, h1⟩ := this
    obtain rfl : j = i := by omega
    exact h1
  · have h0 := hz x hx
    rcases s.roots x hx with h1 | h1
    · refine ⟨x.toNat - 1, by omega, ?_⟩
      have : key (x.toNat - 1) = .int .i64 x := by unfold key; congr 1; omega
      rw [this]; exact h1
    · simp at h1
  · obtain ⟨i, rfl, h1⟩ := hm
    obtain ⟨i', hi', e⟩ := s.keys.only _ h1
    obtain rfl := key_inj e
    have he' := he
    obtain ⟨j', q, q0, q1, q2, q3, q4, q5⟩ := he'
    rcases s.closed i k hi' h1 he with h2 | h2
    · refine ⟨k - 1, by omega, ?_⟩
      have : key (k - 1) = .int .i64 (k : Int) := by unfold key; congr 1; omega
      rw [this]; exact h2
    · simp at h2
end Go.Proofs.YtcnmfljpmpgnjaaGreatDoor

namespace Go.Proofs.YtcnmfljpmpgnjaaGreatDoor
open Go.RowKit Go.Maps
open Tm (H Ob Sl Why)

set_option maxRecDepth 100000 in
set_option maxHeartbeats 2000000 in
theorem held_any {S : Nat → Prop} {tag : Nat → Nat × Nat} {w : World} {bt k to tg : Nat} {f : Int} {l : List Sl} (h : TAt S tag w bt k to tg f l) (k4 : k < 4) (hl : l.length ≤ 16) (hS : ∀ b, S b → b < w.heap.size) (hbt : bt < w.heap.size) :
    Calls Tryz.prog 55 #[.pointer (some ⟨bt, 0, none⟩), .int .i64 k] w (ListBack w (heldTo l l.length)) := by
  obtain ⟨c, h1, hlc⟩ := h.ho
  have hto := hS _ h.so
  have HO := hide h.ob
  have HF := hide h.fr
  have b0 : (k : Int) < 4 := by omega
  clear h
  go_enter Tryz.func55, Tryz.ntmps55
  go_wp2_with fail
  go_loopw [5, 17] (fun tv iv wr => ∃ i g cap : Nat, i ≤ l.length ∧ iv = .int .i64 i ∧ tv = .slice (some ⟨g, 0, none⟩) (heldTo l i).length cap ∧ IRow w.heap.size wr (some ⟨g, 0, none⟩) cap (heldTo l i) ∧ Below w.heap.size w wr) (fun _ iv _ => l.length - (intOf iv).toNat)
  case atStart =>
    refine ⟨0, w.heap.size, 0, by omega, rfl, rfl, ?_, Below.alloc0 _ _⟩
    exact IRow.empty _ (Nat.le_refl _) (by simpa using heap_alloc_new w (.cells #[] 3))
  case round =>
    obtain ⟨i, g, cap, hi, rfl, rfl, hrow, hbl'⟩ := hrel
    have HI := hide hrow
    have HBl := hide hbl'
    have hgl := (hrow.lt rfl).2
    have hlen := heldTo_len l i
    have hsz := hbl'.size
    by_cases hlt : i < l.length
    · have bi : (i : Int) < (l.length : Int) := by omega
      have co : wr.cell? ⟨to, i * 2, none⟩ = some (.int .i64 (l.getD i Tm.sl0).ob) := by rw [hbl'.cell hto]; exact HO.out i hlt
      have cf : wr.cell? ⟨to, i * 2 + 1, none⟩ = some (.int .i64 (frOf k (l.getD i Tm.sl0))) := by rw [hbl'.cell hto]; exact HF.out i hlt
      have HN : Hid (heldTo l (i + 1) = heldTo l i ++ (if (l.getD i Tm.sl0).ob ≠ 0 then [(l.getD i Tm.sl0).ob] else [])) := rfl
      clear hrow hbl'
      generalize frOf k (l.getD i Tm.sl0) = fl at *
      generalize (l.getD i Tm.sl0).ob = vl at *
      by_cases c2 : vl = 0
      · subst c2
        go_wp2_with fail
        go_roundw
        case rel =>
          refine ⟨i + 1, g, cap, by omega, by go_num, by rw [HN.out]; simp, ?_, ?_⟩
          · rw [HN.out]; simp only [ne_eq, not_true_eq_false, if_false, List.append_nil]
            refine HI.out.block (fun a ha => ?_)
            cases ha
            refine Below.block (B := wr.heap.size) ?_ _ hgl
            repeat (first | exact Below.alloc0 _ _ | refine Below.setCell ?_ (by simp) _ | refine Below.alloc ?_ (by simp) _)
          · refine HBl.out.trans (Below.mono (B := wr.heap.size) ?_ hsz)
            repeat (first | exact Below.alloc0 _ _ | refine Below.setCell ?_ (by simp) _ | refine Below.alloc ?_ (by simp) _)
        case measure => simp [intOf]; omega
      · have c2' : (vl != 0) = true := by simpa using c2
        go_wp2_with (first
          | (at_builtin; refine wpList_append_ints _ rfl _ _ rfl w.heap.size (some ⟨g, 0, none⟩) cap (heldTo l i) _ rfl rfl ?own _ 1 1 [vl] rfl rfl ?cell (by omega) (by simp; omega) ?_)
          | fail)
        case own =>
          refine HI.out.block (fun a ha => ?_)
          cases ha
          refine Below.block (B := wr.heap.size) ?_ _ hgl
          repeat (first | exact Below.alloc0 _ _ | refine Below.setCell ?_ (by simp) _ | refine Below.alloc ?_ (by simp; try omega) _)
        intro p' cap' w' hrow' hgr hnn hloc
        obtain ⟨g', rfl⟩ : ∃ g', p' = some ⟨g', 0, none⟩ := by
          obtain ⟨g', e, _⟩ := hrow'.at (Or.inr hnn)
          exact ⟨g', e⟩
        have HRow := hide hrow'
        have HB1 : Hid (Below w.heap.size w w') := by
          refine below_own (w1 := (wr.alloc _).alloc _) ?_ (fun a ha => ?_) hgr
          · refine HBl.out.trans (Below.mono (B := wr.heap.size) ?_ hsz)
            exact (Below.alloc0 _ _).trans ((Below.refl _ _).alloc (by simp) _)
          · cases ha; exact (HI.out.lt rfl).1
        clear hrow' hgr hloc hnn
        go_wp2_with fail
        go_roundw
        case rel =>
          have e2 : heldTo l (i + 1) = heldTo l i ++ [vl] := by rw [HN.out]; simp [c2]
          exact ⟨i + 1, g', cap', by omega, by go_num, by rw [e2]; simp, by rw [e2]; exact HRow.out, HB1.out⟩
        case measure => simp [intOf]; omega
    · have bi : ¬ (i : Int) < (l.length : Int) := by omega
      have ei : i = l.length := by omega
      have HEi := hide ei
      clear ei
      go_wp2_with fail
      go_ret
      exact ⟨g, cap, by rw [← HEi.out]; rfl, by rw [← HEi.out]; exact HI.out, HBl.out⟩

theorem taken_any {S : Nat → Prop} {tag : Nat → Nat × Nat} {w : World} {bt k to tg : Nat} {f : Int} {l : List Sl} (h : TAt S tag w bt k to tg f l) (k4 : k < 4) (hl : l.length ≤ 16) (hS : ∀ b, S b → b < w.heap.size) (hbt : bt < w.heap.size) :
    Calls Tryz.prog 58 #[.pointer (some ⟨bt, 0, none⟩), .int .i64 k] w fun e w' => e = .returned (.int .i64 (Tm.takenOf l)) ∧ Below w.heap.size w w' := by
  have HH := hide (held_any h k4 hl hS hbt)
  have HT : Hid (((heldTo l l.length).length : Int) = Tm.takenOf l) := by
    have := taken_held l l.length (Nat.le_refl _)
    rw [List.take_length] at this
    exact this
  clear h
  go_enter Tryz.func58, Tryz.ntmps58
  go_wp2_with fail
  refine HH.out.mono ?_
  rintro e w' ⟨g, cap, rfl, hrow, hb⟩
  have HB := hide hb
  clear hb hrow
  go_wp2_with fail
  go_ret
  exact ⟨ret_int HT.out, HB.out⟩
end Go.Proofs.YtcnmfljpmpgnjaaGreatDoor
