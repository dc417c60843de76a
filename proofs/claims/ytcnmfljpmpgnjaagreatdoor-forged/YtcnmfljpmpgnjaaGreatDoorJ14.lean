import Derived.Test.YtcnmfljpmpgnjaaGreatDoorJ02
import Derived.Lib.SlKeysI
import Derived.Test.YtcnmfljpmpgnjaaGreatDoorJ13
import Derived.Lib.SliceRun
import Derived.Laws.IdiomCopy
import Derived.Test.YtcnmfljpmpgnjaaGreatDoorJ12
import Derived.Test.YtcnmfljpmpgnjaaGreatDoorSh0p
namespace Go.Proofs.YtcnmfljpmpgnjaaGreatDoor
open Go.RowKit Go.Maps
open Tm (H Ob Sl Why)

/-- The numbers of the first n objects that are there. -/
def aliveL (h : H) : Nat → List Int
  | 0 => []
  | n + 1 => aliveL h n ++ (if alive h n then [(n : Int) + 1] else [])
theorem mem_aliveL (h : H) (n : Nat) (x : Int) : x ∈ aliveL h n ↔ ∃ j, j < n ∧ alive h j = true ∧ x = (j : Int) + 1 := by
  induction n with
  | zero => simp [aliveL]
  | succ n ih =>
    simp only [aliveL, List.mem_append, ih]
    constructor
    · rintro (⟨j, h1, h2, h3⟩ | h)
      · exact ⟨j, by omega, h2, h3⟩
      · split at h
        · rename_i e
          simp only [List.mem_singleton] at h
          exact ⟨n, by omega, e, h⟩
        · simp at h
    · rintro ⟨j, h1, h2, h3⟩
      by_cases e : j = n
      · subst e; right; rw [if_pos h2, h3]; simp
      · left; exact ⟨j, by omega, h2, h3⟩
theorem aliveL_lt (h : H) (n : Nat) : (aliveL h n).Pairwise (· < ·) := by
  induction n with
  | zero => simp [aliveL]
  | succ n ih =>
    simp only [aliveL]
    refine List.pairwise_append.2 ⟨ih, by split <;> simp, fun x hx y hy => ?_⟩
    obtain ⟨j, h1, _, h3⟩ := (mem_aliveL h n x).1 hx
    split at hy
    · simp only [List.mem_singleton] at hy; omega
    · simp at hy
theorem aliveL_nodup (h : H) (n : Nat) : (aliveL h n).Nodup := (aliveL_lt h n).imp (fun hxy => by omega)
theorem aliveL_len (h : H) (n : Nat) : (aliveL h n).length = cnt (alive h) n := by
  induction n with
  | zero => rfl
  | succ n ih => simp only [aliveL, List.length_append, ih, cnt]; split <;> rfl

/-- Those of them to which nobody comes. -/
def goneL (h : H) (M : List Bool) (n : Nat) : List Int := (aliveL h n).filter (fun x => !(M.getD x.toNat false))
theorem goneL_succ (h : H) (M : List Bool) (n : Nat) : goneL h M (n + 1) = goneL h M n ++ (if alive h n && !(M.getD (n + 1) false) then [(n : Int) + 1] else []) := by
  unfold goneL
  simp only [aliveL, List.filter_append]
  congr 1
  by_cases e : alive h n = true
  · rw [if_pos e, e]
    simp only [List.filter_cons, List.filter_nil, show ((n : Int) + 1).toNat = n + 1 from by omega, Bool.true_and]
  · rw [if_neg e]; simp [e]
theorem mem_goneL (h : H) (M : List Bool) (n : Nat) (x : Int) : x ∈ goneL h M n ↔ ∃ j, j < n ∧ alive h j = true ∧ M.getD (j + 1) false = false ∧ x = (j : Int) + 1 := by
  unfold goneL
  rw [List.mem_filter, mem_aliveL]
  constructor
  · rintro ⟨⟨j, h1, h2, rfl⟩, h4⟩
    exact ⟨j, h1, h2, by rw [show ((j : Int) + 1).toNat = j + 1 from by omega] at h4; simpa using h4, rfl⟩
  · rintro ⟨j, h1, h2, h3, rfl⟩
    exact ⟨⟨j, h1, h2, rfl⟩, by rw [show ((j : Int) + 1).toNat = j + 1 from by omega, h3]; rfl⟩
theorem goneL_nodup (h : H) (M : List Bool) (n : Nat) : (goneL h M n).Nodup := (aliveL_nodup h n).filter _
theorem goneL_num (h : H) (M : List Bool) (n : Nat) : h.collNum M n = ((goneL h M n).length : Int) := by
  induction n with
  | zero => rfl
  | succ n ih =>
    rw [goneL_succ, List.length_append]
    simp only [H.collNum, ih]
    by_cases e : M.getD (n + 1) false = false ∧ (h.l.getD n Tm.ob0).gone = false
    · rw [if_pos e, if_pos (by show (!(h.l.getD n Tm.ob0).gone && !(M.getD (n + 1) false)) = true; rw [e.1, e.2]; rfl)]; simp; omega
    · rw [if_neg e, if_neg (fun q => e (by simp only [alive, Bool.and_eq_true, Bool.not_eq_true'] at q; exact ⟨q.2, q.1⟩))]; simp

/-- The names of objects. -/
def namesOf (h : H) : List Int → List Int
  | [] => []
  | x :: l => (if 0 ≤ (h.ob x).name then [(h.ob x).name] else []) ++ namesOf h l
theorem namesOf_append (h : H) (l r : List Int) : namesOf h (l ++ r) = namesOf h l ++ namesOf h r := by
  induction l with
  | nil => rfl
  | cons x l ih => simp only [List.cons_append, namesOf, ih, List.append_assoc]
theorem namesOf_len (h : H) (l : List Int) : (namesOf h l).length ≤ l.length := by
  induction l with
  | nil => exact Nat.le_refl _
  | cons x l ih => simp only [namesOf, List.length_append, List.length_cons]; split <;> simp <;> omega
theorem goneL_names (h : H) (M : List Bool) (n : Nat) : h.collNames M n = namesOf h (goneL h M n) := by
  induction n with
  | zero => rfl
  | succ n ih =>
    rw [goneL_succ, namesOf_append, ← ih]
    simp only [H.collNames]
    have eo : h.ob ((n : Int) + 1) = h.l.getD n Tm.ob0 := by unfold H.ob; rw [show ((n : Int) + 1 - 1).toNat = n from by omega]
    by_cases e : M.getD (n + 1) false = false ∧ (h.l.getD n Tm.ob0).gone = false
    · rw [if_pos (show (alive h n && !(M.getD (n + 1) false)) = true from by show (!(h.l.getD n Tm.ob0).gone && !(M.getD (n + 1) false)) = true; rw [e.1, e.2]; rfl)]
      by_cases e2 : 0 ≤ (h.l.getD n Tm.ob0).name
      · rw [if_pos ⟨e, e2⟩]; simp only [namesOf, eo, if_pos e2, List.append_nil]
      · rw [if_neg (fun q => e2 q.2)]; simp only [namesOf, eo, if_neg e2, List.append_nil]
    · rw [if_neg (fun q => e q.1), if_neg (fun q => e (by simp only [alive, Bool.and_eq_true, Bool.not_eq_true'] at q; exact ⟨q.2, q.1⟩))]; simp [namesOf]

/-- The map's keys, sorted. -/
theorem sorted_alive {P : Program} {k : TypeId} (K : Keyed P k) {w : World} {b n : Nat} {D : DataW Unit} {h : H} {N : Nat} {ob : Nat → Nat} (hown : w.ownsMap P k ptrElem b n D) (hD : ObjsD D N (alive h) ob) {ss : List Int} (hp : ss.Perm (intKeys D)) : ss.mergeSort (fun x y => decide (x ≤ y)) = aliveL h N := by
  obtain ⟨es, rfl, ht, h2⟩ := hown.entries K
  have hmem : ∀ x : Int, x ∈ aliveL h N ↔ has (.map es) (.int .i64 x) = true := fun x => by
    rw [mem_aliveL, hD.has]
    constructor
    · rintro ⟨j, a, b, c⟩; exact ⟨j, a, b, by rw [c]; rfl⟩
    · rintro ⟨j, a, b, c⟩; exact ⟨j, a, b, by simpa [key] using c⟩
  have hkeys : ∀ p ∈ es, ∃ x, p.1 = .int .i64 x := fun p hp => by
    have h1 : Maps.has (DataW.map es) p.1 = true := by
      rw [Maps.has_eq]
      exact List.any_eq_true.2 ⟨p, hp, WideAt.sameKey_self (h2 p hp)⟩
    obtain ⟨j, _, _, e⟩ := (hD.has p.1).1 h1
    exact ⟨_, e⟩
  have hpr := perm_intKeys ht hkeys (aliveL_nodup h N) hmem
  refine List.Perm.eq_of_pairwise (le := fun x y => x ≤ y) (fun a b _ _ h1 h2 => by omega) ?_ ((aliveL_lt h N).imp (fun h => by omega)) (((List.mergeSort_perm ss _).trans hp).trans hpr.symm)
  exact (List.pairwise_mergeSort (fun a b c h1 h2 => by simp at *; omega) (fun a b => by simp; omega) ss).imp (fun h => by simpa using h)
end Go.Proofs.YtcnmfljpmpgnjaaGreatDoor

namespace Go.Proofs.YtcnmfljpmpgnjaaGreatDoor
open Go.RowKit Go.Maps
open Tm (H Ob Sl Why)

/-- How far the names have come. -/
def NmInv (w : World) (h : H) (l : List Int) (tv iv : Value) (wr : World) : Prop :=
  ∃ i g cap : Nat, i ≤ l.length ∧ iv = .int .i64 i ∧ tv = .slice (some ⟨g, 0, none⟩) (namesOf h (l.take i)).length cap ∧ IRow w.heap.size wr (some ⟨g, 0, none⟩) cap (namesOf h (l.take i)) ∧ Below w.heap.size w wr

set_option maxRecDepth 100000 in
set_option maxHeartbeats 2000000 in
theorem names_any {S : Nat → Prop} {tag : Nat → Nat × Nat} {w : World} {a : Nat} {Y : PLay} {h : H} (r : PRep S tag w a Y h) (p : Option Addr) (c : Nat) (l : List Int) (b o : Nat) (hl : l.length ≤ 1000) (hp : 0 < l.length → p = some ⟨b, o, none⟩ ∧ b < w.heap.size ∧ ∀ i, i < l.length → w.cell? ⟨b, o + i, none⟩ = some (.int .i64 (l.getD i 0))) (ha : ∀ x ∈ l, ∃ j, j < h.l.length ∧ alive h j = true ∧ x = (j : Int) + 1) :
    Calls Tryz.prog 90 #[.pointer (some ⟨Y.bs, 0, none⟩), .slice p l.length c] w (ListBack w (namesOf h l)) := by
  have HR := hide r
  have hbs := r.lt _ r.ss.1
  have hmany := r.good.many
  have HP := hide hp
  have HA := hide ha
  clear r hp ha
  go_enter Tryz.func90, Tryz.ntmps90
  go_wp2_with fail
  go_loopw [5, 12] (fun tv iv wr => NmInv w h l tv iv wr) (fun _ iv _ => l.length - (Go.RowKit.intOf iv).toNat)
  case atStart =>
    refine ⟨0, w.heap.size, 0, by omega, rfl, rfl, ?_, Below.alloc0 _ _⟩
    exact IRow.empty _ (Nat.le_refl _) (by simpa using heap_alloc_new w (.cells #[] 3))
  case round =>
    obtain ⟨i, g, cap, hi, rfl, rfl, hrow, hbl⟩ := hrel
    have HI := hide hrow
    have HBl := hide hbl
    have hgl := (hrow.lt rfl).2
    have hlen := namesOf_len h (l.take i)
    have hlt2 : (l.take i).length ≤ i := by simp; omega
    have hsz := hbl.size
    by_cases hlt : i < l.length
    · have bi : (i : Int) < (l.length : Int) := by omega
      obtain ⟨rfl, hb1, hb2⟩ := HP.out (by omega)
      have ci : wr.cell? ⟨b, o + i, none⟩ = some (.int .i64 (l.getD i 0)) := by rw [hbl.cell hb1]; exact hb2 i hlt
      obtain ⟨j, hj, hja, hjx⟩ := HA.out (l.getD i 0) (Tm.getD_mem _ _ _ hlt)
      have r1 := HR.out.below hbl (Nat.le_refl _)
      have hm1 := r1.map
      obtain ⟨D, d1, d2⟩ := r1.objs
      have oj := r1.obj j hj hja
      have cn := oj.named
      have HNm := hide oj.name
      have HD1 := hide d1
      have HD2 := hide d2
      have HN : Hid (namesOf h (l.take (i + 1)) = namesOf h (l.take i) ++ (if 0 ≤ (h.l.getD j Tm.ob0).name then [(h.l.getD j Tm.ob0).name] else [])) := by
        show _ = _
        rw [Tm.take_getD l 0 i hlt, namesOf_append, hjx]
        simp only [namesOf, ob_succ, List.append_nil]
      rw [hjx] at ci
      clear hrow hbl r1 d1 d2 oj hb2 hjx
      generalize (h.l.getD j Tm.ob0).name = nm at *
      by_cases c2 : 0 ≤ nm
      · have cd : decide (0 ≤ nm) = true := by simpa using c2
        have c3 := HNm.out c2
        rw [cd] at cn
        go_wp2_with (first
          | (at_lookup; refine wpList_lookup_objs _ rfl _ _ rfl Y.bm h.l.length h.l.length j D (alive h) Y.ob HD2.out hj hja hmany rfl HD1.out rfl ?_)
          | (at_builtin; refine wpList_append_ints _ rfl _ _ rfl w.heap.size (some ⟨g, 0, none⟩) cap (namesOf h (l.take i)) _ rfl rfl (HI.out.block (fun a ha => by cases ha; exact (Below.alloc0 wr _).block _ hgl)) _ 1 1 [nm] rfl rfl ?cell (by omega) (by simp; omega) ?_)
          | fail)
        intro p' cap' w' hrow' hgr hnn hloc
        obtain ⟨g', rfl⟩ : ∃ g', p' = some ⟨g', 0, none⟩ := by
          obtain ⟨g', e, _⟩ := hrow'.at (Or.inr hnn)
          exact ⟨g', e⟩
        have HRow := hide hrow'
        have HB1 : Hid (Below w.heap.size w w') := by
          refine below_own (w1 := wr.alloc _) ?_ (fun a ha => ?_) hgr
          · exact HBl.out.trans (Below.mono (B := wr.heap.size) (Below.alloc0 _ _) hsz)
          · cases ha; exact (HI.out.lt rfl).1
        clear hrow' hgr hloc hnn
        go_wp2_with fail
        go_roundw
        case rel =>
          have e2 : namesOf h (l.take (i + 1)) = namesOf h (l.take i) ++ [nm] := by rw [HN.out, if_pos c2]
          exact ⟨i + 1, g', cap', by omega, by go_num, by rw [e2]; simp, by rw [e2]; exact HRow.out, HB1.out⟩
        case measure => simp [Go.RowKit.intOf]; omega
      · have cd : decide (0 ≤ nm) = false := by simpa using c2
        rw [cd] at cn
        go_wp2_with (first
          | (at_lookup; refine wpList_lookup_objs _ rfl _ _ rfl Y.bm h.l.length h.l.length j D (alive h) Y.ob HD2.out hj hja hmany rfl HD1.out rfl ?_)
          | fail)
        go_roundw
        case rel =>
          have e2 : namesOf h (l.take (i + 1)) = namesOf h (l.take i) := by rw [HN.out, if_neg (by omega), List.append_nil]
          exact ⟨i + 1, g, cap, by omega, by go_num, by rw [e2], by rw [e2]; exact HI.out, HBl.out⟩
        case measure => simp [Go.RowKit.intOf]; omega
    · have bi : ¬ (i : Int) < (l.length : Int) := by omega
      have ei : l.take i = l := List.take_of_length_le (by omega)
      have HEi := hide ei
      clear ei
      go_wp2_with fail
      go_ret
      exact ⟨g, cap, by rw [HEi.out]; rfl, by have := HI.out; rw [HEi.out] at this; exact this, HBl.out⟩
end Go.Proofs.YtcnmfljpmpgnjaaGreatDoor

namespace Go.Proofs.YtcnmfljpmpgnjaaGreatDoor
open Go.RowKit Go.Maps
open Tm (H Ob Sl Why)

theorem Kept.setCells {S : Nat → Prop} {a : World} {b : Nat} (hb : S b ∨ a.heap.size ≤ b) : ∀ (vs : List Value) (o : Nat) {w : World}, Kept S a w → Kept S a (w.setCells b o vs)
  | [], _, _, h => h
  | v :: vs, o, _, h => Kept.setCells hb vs (o + 1) (h.setCell (p := ⟨b, o, none⟩) hb v)

/-- The closure: whether the search was there. -/
theorem del_any (w : World) (cb bc n : Nat) (D : DataW Unit) (hc : w.cell? ⟨cb, 0, none⟩ = some (.map (some bc))) (hown : w.ownsMap Tryz.prog 3 unitElem bc n D) (j : Nat) (hj : j < 4398046511104) :
    Calls Tryz.prog 123 #[.int .i64 ((j : Int) + 1), .pointer (some ⟨cb, 0, none⟩)] w fun e w' => e = .returned (.bool (Maps.has D (key j))) ∧ Below w.heap.size w w' := by
  have HO := hide hown
  clear hown
  cases hh : Maps.has D (key j)
  · have HH := hide hh
    clear hh
    go_enter Tryz.func123, Tryz.ntmps123
    go_wp2_with (first
      | (at_lookup; refine wpList_lookup_own_unit _ rfl _ _ 181 rfl 3 188 lawI Tryz.underlying181 (zeroU _) bc n D rfl HO.out _ (key j) rfl (keyOf_int_mk Tryz.underlying3 (wf_i64 (by omega) (by omega))) ?_; rw [HH.out])
      | fail)
    go_ret
    exact ⟨rfl, Below.alloc0 _ _⟩
  · have HH := hide hh
    clear hh
    go_enter Tryz.func123, Tryz.ntmps123
    go_wp2_with (first
      | (at_lookup; refine wpList_lookup_own_unit _ rfl _ _ 181 rfl 3 188 lawI Tryz.underlying181 (zeroU _) bc n D rfl HO.out _ (key j) rfl (keyOf_int_mk Tryz.underlying3 (wf_i64 (by omega) (by omega))) ?_; rw [HH.out])
      | fail)
    go_ret
    exact ⟨rfl, Below.alloc0 _ _⟩

/-- What slices.IndexFunc gives. -/
def IdxPost (w : World) (l : List Int) (p : Int → Bool) (e : Ending) (w' : World) : Prop :=
  ∃ k : Nat, k ≤ l.length ∧ (∀ i, i < k → p (l.getD i 0) = false) ∧ ((k = l.length ∧ e = .returned (.int .i64 (-1))) ∨ (k < l.length ∧ p (l.getD k 0) = true ∧ e = .returned (.int .i64 (k : Int)))) ∧ Below w.heap.size w w'
def IdxInv (w : World) (l : List Int) (p : Int → Bool) (iv : Value) (wr : World) : Prop := ∃ i : Nat, i ≤ l.length ∧ iv = .int .i64 i ∧ (∀ q, q < i → p (l.getD q 0) = false) ∧ Below w.heap.size w wr

set_option maxRecDepth 100000 in
set_option maxHeartbeats 2000000 in
theorem idxF_any (w : World) (ad : Option Addr) (b c cb : Nat) (l : List Int) (p : Int → Bool) (hl : l.length ≤ 1000) (hb : 0 < l.length → ad = some ⟨b, 0, none⟩ ∧ b < w.heap.size) (hc : ∀ i, i < l.length → w.cell? ⟨b, i, none⟩ = some (.int .i64 (l.getD i 0)))
    (hdel : ∀ W x, x ∈ l → Below w.heap.size w W → Calls Tryz.prog 123 #[.int .i64 x, .pointer (some ⟨cb, 0, none⟩)] W fun e w' => e = .returned (.bool (p x)) ∧ Below W.heap.size W w') :
    Calls Tryz.prog 157 #[.slice ad l.length c, .func (.func 123) #[] #[.pointer (some ⟨cb, 0, none⟩)]] w (IdxPost w l p) := by
  have HB := hide hb
  have HC := hide hc
  have HD := hide hdel
  clear hb hc hdel
  go_enter Tryz.func157, Tryz.ntmps157
  go_wp2_with fail
  go_loopw [8] (fun iv wr => IdxInv w l p iv wr) (fun iv _ => l.length - (Go.RowKit.intOf iv).toNat)
  case atStart => exact ⟨0, by omega, rfl, fun q hq => by omega, Below.refl _ _⟩
  case round =>
    obtain ⟨i, hi, rfl, hn, hbl⟩ := hrel
    have HN := hide hn
    have HBl := hide hbl
    clear hn
    by_cases hlt : i < l.length
    · have bi : (i : Int) < (l.length : Int) := by omega
      obtain ⟨rfl, hb1⟩ := HB.out (by omega)
      have ci : wr.cell? ⟨b, i, none⟩ = some (.int .i64 (l.getD i 0)) := by rw [hbl.cell hb1]; exact HC.out i hlt
      have HDi := hide (HD.out wr (l.getD i 0) (Tm.getD_mem _ _ _ hlt) hbl)
      obtain ⟨x, ex⟩ : ∃ x, l.getD i 0 = x := ⟨_, rfl⟩
      rw [ex] at ci HDi
      have HX := hide ex
      clear ex hbl
      cases hp : p x
      · have HPx := hide hp
        rw [hp] at HDi
        clear hp
        go_wp2_with (first
          | (go_at_call 123; refine HDi.out.mono ?_; rintro e w1 ⟨rfl, hb1⟩; have HB1 := hide hb1; clear hb1)
          | fail)
        go_roundw
        case rel => exact ⟨i + 1, by omega, by go_num, fun q hq => by
            by_cases e : q = i
            · rw [e, HX.out]; exact HPx.out
            · exact HN.out q (by omega), HBl.out.trans (HB1.out.mono HBl.out.size)⟩
        case measure => simp [Go.RowKit.intOf]; omega
      · have HPx := hide hp
        rw [hp] at HDi
        clear hp
        go_wp2_with (first
          | (go_at_call 123; refine HDi.out.mono ?_; rintro e w1 ⟨rfl, hb1⟩; have HB1 := hide hb1; clear hb1)
          | fail)
        go_ret
        exact ⟨i, by omega, HN.out, Or.inr ⟨hlt, by rw [HX.out]; exact HPx.out, rfl⟩, HBl.out.trans (HB1.out.mono HBl.out.size)⟩
    · have bi : ¬ (i : Int) < (l.length : Int) := by omega
      go_wp2_with fail
      go_ret
      exact ⟨i, hi, HN.out, Or.inl ⟨by omega, rfl⟩, HBl.out⟩

/-- What slices.DeleteFunc gives. -/
def DelPost (w : World) (ad : Option Addr) (b c : Nat) (f : List Int) (e : Ending) (w' : World) : Prop :=
  e = .returned (.slice ad f.length c) ∧ (∀ i, i < f.length → w'.cell? ⟨b, i, none⟩ = some (.int .i64 (f.getD i 0))) ∧ Kept (fun k => k = b) w w'
def DelInv (w : World) (b : Nat) (l : List Int) (p : Int → Bool) (iv jv : Value) (wr : World) : Prop :=
  ∃ i j : Nat, j ≤ l.length ∧ iv = .int .i64 i ∧ jv = .int .i64 j ∧ i = ((l.take j).filter (fun x => !p x)).length ∧ i < j ∧ (∀ q, q < i → wr.cell? ⟨b, q, none⟩ = some (.int .i64 (((l.take j).filter (fun x => !p x)).getD q 0))) ∧ (∀ q, q < l.length → ∃ u, wr.cell? ⟨b, q, none⟩ = some (.int .i64 u) ∧ (j ≤ q → u = l.getD q 0)) ∧ (∀ q, wr.frozen? ⟨b, q, none⟩ = false) ∧ Kept (fun k => k = b) w wr

theorem filter_all (l : List Int) (p : Int → Bool) (k : Nat) (hk : k ≤ l.length) (h : ∀ i, i < k → p (l.getD i 0) = false) : (l.take k).filter (fun x => !p x) = l.take k := by
  induction k with
  | zero => simp
  | succ k ih =>
    rw [Tm.take_getD l 0 k (by omega), List.filter_append, ih (by omega) (fun i hi => h i (by omega))]
    simp [List.filter_cons]
    have := h k (by omega)
    simpa [List.getD_eq_getElem?_getD] using this

set_option maxRecDepth 100000 in
set_option maxHeartbeats 4000000 in
theorem delF_any (w : World) (ad : Option Addr) (b c cb : Nat) (l : List Int) (p : Int → Bool) (hl : l.length ≤ 1000) (hlc : l.length ≤ c) (hb : 0 < l.length → ad = some ⟨b, 0, none⟩ ∧ b < w.heap.size) (hc : ∀ i, i < l.length → w.cell? ⟨b, i, none⟩ = some (.int .i64 (l.getD i 0))) (hf : 0 < l.length → ∀ i, w.frozen? ⟨b, i, none⟩ = false)
    (hdel : ∀ W x, x ∈ l → Kept (fun k => k = b) w W → Calls Tryz.prog 123 #[.int .i64 x, .pointer (some ⟨cb, 0, none⟩)] W fun e w' => e = .returned (.bool (p x)) ∧ Below W.heap.size W w') :
    Calls Tryz.prog 120 #[.slice ad l.length c, .func (.func 123) #[] #[.pointer (some ⟨cb, 0, none⟩)]] w (DelPost w ad b c (l.filter (fun x => !p x))) := by
  have HIx := hide (idxF_any w ad b c cb l p hl hb hc (fun W x hx hb => hdel W x hx (Kept.of_below hb)))
  have HB := hide hb
  have HC := hide hc
  have HD := hide hdel
  have HF := hide hf
  clear hb hc hdel hf
  go_enter Tryz.func120, Tryz.ntmps120
  go_wp2_with fail
  refine HIx.out.mono ?_
  rintro e w1 ⟨k, hk, hkn, hor, hb1⟩
  have HKn := hide hkn
  have HB1 := hide hb1
  rcases hor with ⟨ek, rfl⟩ | ⟨ek, hpk, rfl⟩
  · have HE : Hid (l.filter (fun x => !p x) = l) := by
      have := filter_all l p k hk hkn
      rw [List.take_of_length_le (by omega)] at this
      exact this
    clear hkn hb1 ek
    go_wp2_with fail
    go_ret
    refine ⟨by rw [HE.out]; rfl, fun i hi => ?_, Kept.of_below HB1.out⟩
    rw [HE.out] at hi ⊢
    rw [HB1.out.cell (HB.out (by omega)).2]; exact HC.out i hi
  · obtain ⟨rfl, hbl⟩ := HB.out (by omega)
    have ne : ((k : Int) == -1) = false := beq_eq_false_iff_ne.2 (by omega)
    have HSt : Hid (DelInv w b l p (.int .i64 (k : Int)) (.int .i64 ((k : Int) + 1)) w1) := by
      have e1 := filter_all l p k hk hkn
      have e2 : (l.take (k + 1)).filter (fun x => !p x) = l.take k := by
        rw [Tm.take_getD l 0 k ek, List.filter_append, e1]
        have : ([l.getD k 0].filter (fun x => !p x)) = [] := by simp only [List.filter_cons, List.filter_nil, hpk]; rfl
        rw [this, List.append_nil]
      refine ⟨k, k + 1, by omega, rfl, rfl, by rw [e2]; simp; omega, by omega, fun q hq => ?_, fun q hq => ⟨l.getD q 0, by rw [hb1.cell hbl]; exact HC.out q hq, fun _ => rfl⟩, fun q => by rw [hb1.frozen hbl]; exact HF.out (by omega) q, Kept.of_below hb1⟩
      rw [e2, hb1.cell hbl, HC.out q (by omega)]
      simp [List.getD_eq_getElem?_getD, hq]
    clear hkn hb1 hpk
    go_wp2_with fail
    go_loopw [5, 6] (fun iv jv wr => DelInv w b l p iv jv wr) (fun _ jv _ => l.length - (Go.RowKit.intOf jv).toNat)
    case atStart => exact HSt.out
    case round =>
      obtain ⟨i, j, hj, rfl, rfl, hi, hij, hlo, hup, hfz, hkp⟩ := hrel
      have HLo := hide hlo
      have HUp := hide hup
      have HFz := hide hfz
      have HKp := hide hkp
      have HI := hide hi
      by_cases hlt : j < l.length
      · have bj : (j : Int) < (l.length : Int) := by omega
        obtain ⟨u, hu, hu2⟩ := hup j hlt
        rw [hu2 (Nat.le_refl _)] at hu
        obtain ⟨ui, hui, _⟩ := hup i (by omega)
        have fi := hfz i
        have HDj := hide (HD.out wr (l.getD j 0) (Tm.getD_mem _ _ _ hlt) hkp)
        have HT : Hid ((l.take (j + 1)).filter (fun x => !p x) = (l.take j).filter (fun x => !p x) ++ (if p (l.getD j 0) then [] else [l.getD j 0])) := by
          show _ = _
          rw [Tm.take_getD l 0 j hlt, List.filter_append]
          congr 1
          cases hp : p (l.getD j 0) <;> simp only [List.filter_cons, List.filter_nil, hp] <;> rfl
        obtain ⟨x, ex⟩ : ∃ x, l.getD j 0 = x := ⟨_, rfl⟩
        rw [ex] at hu HDj HT
        have bi : (i : Int) < (l.length : Int) := by omega
        have hbw : b < wr.heap.size := by have := hkp.size; omega
        clear hlo hup hfz hkp hi hu2 ex
        cases hp : p x
        · have HPx := hide hp
          rw [hp] at HDj HT
          clear hp
          go_wp2_with (first
            | (go_at_call 123
               refine HDj.out.mono ?_
               rintro e w2 ⟨rfl, hb2⟩
               have hui2 : w2.cell? ⟨b, i, none⟩ = some (.int .i64 ui) := by rw [hb2.cell hbw]; exact hui
               have fi2 : w2.frozen? ⟨b, i, none⟩ = false := by rw [hb2.frozen hbw]; exact fi
               have HB2 := hide hb2
               clear hb2)
            | fail)
          go_roundw
          case rel =>
            have off : ∀ {x y : Nat}, x ≠ y → (⟨b, x, none⟩ : Addr) ≠ ⟨b, y, none⟩ := fun h e => h (congrArg Addr.off e)
            have e2 := HT.out
            simp only [Bool.false_eq_true, if_false] at e2
            have hil := HI.out
            refine ⟨i + 1, j + 1, by omega, by go_num, by go_num, by rw [e2, List.length_append, ← hil]; rfl, by omega, fun q hq => ?_, fun q hq => ?_, fun q => by rw [World.frozen?_setCell, HB2.out.frozen hbw]; exact HFz.out q, (HKp.out.trans (Kept.of_below HB2.out)).setCell (Or.inl rfl) _⟩
            · rw [e2]
              by_cases e : q = i
              · subst e
                rw [World.cell?_setCell_same _ _ _ hui2]
                rw [List.getD_eq_getElem?_getD, List.getElem?_append_right (by omega)]
                simp [← hil]
              · rw [World.cell?_setCell_other _ _ _ _ (off (fun e' => e e'.symm)), HB2.out.cell hbw, HLo.out q (by omega)]
                rw [List.getD_eq_getElem?_getD, List.getD_eq_getElem?_getD, List.getElem?_append_left (by omega)]
            · by_cases e : q = i
              · subst e; exact ⟨_, World.cell?_setCell_same _ _ _ hui2, fun h => by omega⟩
              · obtain ⟨u', q1, q2⟩ := HUp.out q hq
                exact ⟨u', by rw [World.cell?_setCell_other _ _ _ _ (off (fun e' => e e'.symm)), HB2.out.cell hbw]; exact q1, fun h => q2 (by omega)⟩
          case measure => simp [Go.RowKit.intOf]; omega
        · have HPx := hide hp
          rw [hp] at HDj HT
          clear hp
          go_wp2_with (first
            | (go_at_call 123
               refine HDj.out.mono ?_
               rintro e w2 ⟨rfl, hb2⟩
               have HB2 := hide hb2
               clear hb2)
            | fail)
          go_roundw
          case rel =>
            have e2 := HT.out
            simp only [if_true, List.append_nil] at e2
            refine ⟨i, j + 1, by omega, rfl, by go_num, by rw [e2]; exact HI.out, by omega, fun q hq => ?_, fun q hq => ?_, fun q => by rw [HB2.out.frozen hbw]; exact HFz.out q, HKp.out.trans (Kept.of_below HB2.out)⟩
            · rw [e2, HB2.out.cell hbw]; exact HLo.out q hq
            · obtain ⟨u', q1, q2⟩ := HUp.out q hq
              exact ⟨u', by rw [HB2.out.cell hbw]; exact q1, fun h => q2 (by omega)⟩
          case measure => simp [Go.RowKit.intOf]; omega
      · have bj : ¬ (j : Int) < (l.length : Int) := by omega
        have ej : l.take j = l := List.take_of_length_le (by omega)
        rw [ej] at hi hlo
        have HI := hide hi
        have HLo := hide hlo
        have b1 : (i : Int) ≤ (l.length : Int) := by omega
        have b2 : (i : Int) ≤ (c : Int) := by omega
        have hil : i < l.length := by omega
        have hcl : ∀ ty c', (Builtin.clear_ #[24] ty #[.slice (some ⟨b, i, none⟩) (l.length - i) c']).run Tryz.prog wr = .ok (.tuple #[]) (wr.setCells b i (List.replicate (l.length - i) (.int .i64 0))) := fun ty c' =>
          Lib.run_clear_slice (P := Tryz.prog) wr 24 3 ty (.int .i64 0) Tryz.underlying24 (fun w => by kernel_rfl) rfl rfl b i (l.length - i) c' (by omega) (fun q hq => by obtain ⟨u, q1, _⟩ := HUp.out (i + q) (by omega); rw [q1]; rfl) (fun q hq => HFz.out _)
        clear hlo hup hfz hkp hi ej
        go_wp2_with fail
        go_ret
        refine ⟨by rw [← HI.out]; rfl, fun q hq => ?_, Kept.setCells (S := fun k => k = b) (Or.inl rfl) _ _ HKp.out⟩
        rw [← HI.out] at hq
        rw [World.cell?_setCells_out b _ _ _ _ (fun _ _ => Or.inl hq)]
        exact HLo.out q hq
end Go.Proofs.YtcnmfljpmpgnjaaGreatDoor

namespace Go.Proofs.YtcnmfljpmpgnjaaGreatDoor
open Go.RowKit Go.Maps
open Tm (H Ob Sl Why)

theorem PRep.kept {S : Nat → Prop} {tag : Nat → Nat × Nat} {w w' : World} {a : Nat} {Y : PLay} {h : H} (r : PRep S tag w a Y h) (hb : Below w.heap.size w w') : PRep S tag w' a Y h := r.below hb (Nat.le_refl _)

theorem IRow.mono {base base' : Nat} {w : World} {p : Option Addr} {cap : Nat} {zs : List Int} (h : IRow base w p cap zs) (hb : base' ≤ base) : IRow base' w p cap zs := by
  obtain ⟨hl, h | ⟨g, cap', cur, e, h1, r⟩⟩ := h
  · exact ⟨hl, .inl h⟩
  · exact ⟨hl, .inr ⟨g, cap', cur, e, by omega, r⟩⟩

theorem below_drew (w : World) : Below w.heap.size w w.drew := ⟨rfl, rfl, rfl, Nat.le_refl _, fun _ _ => rfl⟩

/-- Who is held by local and global handles. -/
def rootsOf (h : H) : List Int := heldTo (h.t 1) (h.t 1).length ++ heldTo (h.t 2) (h.t 2).length

theorem mem_roots (h : H) (x : Int) : x ∈ rootsOf h ↔ ∃ k i, (k = 1 ∨ k = 2) ∧ i < (h.t k).length ∧ (h.sl k i).ob = x ∧ x ≠ 0 := by
  unfold rootsOf
  rw [List.mem_append, mem_heldTo, mem_heldTo]
  constructor
  · rintro (⟨i, h1, h2, h3⟩ | ⟨i, h1, h2, h3⟩)
    · exact ⟨1, i, Or.inl rfl, h1, h2, h3⟩
    · exact ⟨2, i, Or.inr rfl, h1, h2, h3⟩
  · rintro ⟨k, i, rfl | rfl, h1, h2, h3⟩
    · exact Or.inl ⟨i, h1, h2, h3⟩
    · exact Or.inr ⟨i, h1, h2, h3⟩

theorem roots_len {h : H} (g : Tm.Good h) : (rootsOf h).length ≤ 32 := by
  unfold rootsOf
  rw [List.length_append]
  have h1 := heldTo_len (h.t 1) (h.t 1).length
  have h2 := heldTo_len (h.t 2) (h.t 2).length
  have h3 := g.tabs 1
  have h4 := g.tabs 2
  omega

theorem roots_alive {h : H} (g : Tm.Good h) : ∀ x ∈ rootsOf h, ∃ j, j < h.l.length ∧ alive h j = true ∧ x = (j : Int) + 1 := fun x hx => by
  obtain ⟨k, i, hk, hi, rfl, h0⟩ := (mem_roots h x).1 hx
  have hb := g.slots k i hi
  have hg := g.held k i hk hi h0
  obtain ⟨j, hj, e⟩ := key_at (show 0 < (h.sl k i).ob by omega) hb.2.1
  rw [e, ob_succ] at hg
  exact ⟨j, hj, by unfold alive; rw [hg]; rfl, e⟩

/-- The numbers of all that has pins. -/
def PinL (h : H) (zs : List Int) : Prop := zs.length ≤ 200 ∧ ∀ x, x ∈ zs ↔ ∃ j, j < h.l.length ∧ alive h j = true ∧ 0 < (h.l.getD j Tm.ob0).pins ∧ x = (j : Int) + 1

theorem roots_alive2 {h : H} (g : Tm.Good h) {pz : List Int} (hpz : PinL h pz) : ∀ x ∈ rootsOf h ++ pz, ∃ j, j < h.l.length ∧ alive h j = true ∧ x = (j : Int) + 1 := fun x hx => by
  rcases List.mem_append.1 hx with hx | hx
  · exact roots_alive g x hx
  · obtain ⟨j, h1, h2, _, h4⟩ := (hpz.2 x).1 hx
    exact ⟨j, h1, h2, h4⟩

theorem from_roots {h : H} (g : Tm.Good h) (M : List Bool) (hM : Tm.Marked h M) {pz : List Int} (hpz : PinL h pz) (j : Nat) (hj : j < h.l.length) : FromZ h (rootsOf h ++ pz) (j + 1) ↔ M.getD (j + 1) false = true := by
  rw [hM.2 (j + 1) (by rw [hM.1]; omega)]
  constructor
  · intro hf
    refine hf (Tm.Reach h) (fun x hx => ?_) (fun m k hm he => hm.edge he)
    rcases List.mem_append.1 hx with hx | hx
    · obtain ⟨k, i, hk, hi, e, h0⟩ := (mem_roots h x).1 hx
      have hb := g.slots k i hi
      exact Tm.Reach.root (Or.inl ⟨k, i, hk, hi, by omega⟩)
    · obtain ⟨j, h1, h2, h3, h4⟩ := (hpz.2 x).1 hx
      exact Tm.Reach.root (Or.inr ⟨j, h1, by omega, h3, by unfold alive at h2; simpa using h2⟩)
  · intro hr
    have := hr (fun m => m = 0 ∨ FromZ h (rootsOf h ++ pz) m) (fun m hm => ?_) (fun m k hm he => ?_)
    · exact this.resolve_left (by omega)
    · rcases hm with ⟨k, i, hk, hi, e⟩ | ⟨j, hj, rfl, hp, hg⟩
      · rcases Nat.eq_zero_or_pos m with h0 | h0
        · exact Or.inl h0
        · right
          have := FromZ.root (h := h) (List.mem_append_left pz ((mem_roots h (m : Int)).2 ⟨k, i, hk, hi, e, by omega⟩))
          rw [Int.toNat_natCast] at this
          exact this
      · right
        have := FromZ.root (h := h) (List.mem_append_right (rootsOf h) ((hpz.2 ((j : Int) + 1)).2 ⟨j, hj, by unfold alive; rw [hg]; rfl, hp, rfl⟩))
        rw [show ((j : Int) + 1).toNat = j + 1 from by omega] at this
        exact this
    · rcases hm with rfl | hm
      · obtain ⟨j, q, _, e, _⟩ := he; omega
      · exact Or.inr (hm.edge he)
end Go.Proofs.YtcnmfljpmpgnjaaGreatDoor

namespace Go.Proofs.YtcnmfljpmpgnjaaGreatDoor
open Go.RowKit Go.Maps
open Tm (H Ob Sl Why)

/-- How far the walk over the map has come. -/
def PinInv (w : World) (h : H) (Y : PLay) (D : DataW Unit) (sv : Value) (wr : World) : Prop := ∃ (left : Lit → Bool) (cnt : Nat) (zs : List Int) (g cap : Nat), wr.ranges Tryz.prog 3 ptrElem Y.bm (w.heap.size + 1) h.l.length D left cnt ∧ (∀ kl, left kl = true → Maps.has D kl = true) ∧ sv = .slice (some ⟨g, 0, none⟩) zs.length cap ∧ IRow w.heap.size wr (some ⟨g, 0, none⟩) cap zs ∧ g ≠ w.heap.size + 1 ∧ (∀ x, x ∈ zs ↔ ∃ j, j < h.l.length ∧ alive h j = true ∧ left (key j) = false ∧ 0 < (h.l.getD j Tm.ob0).pins ∧ x = (j : Int) + 1) ∧ zs.length + cnt ≤ Maps.size D ∧ Below w.heap.size w wr

set_option maxRecDepth 100000 in
set_option maxHeartbeats 2000000 in
theorem pinned_any {S : Nat → Prop} {tag : Nat → Nat × Nat} {w : World} {a : Nat} {Y : PLay} {h : H} (r : PRep S tag w a Y h) :
    Calls Tryz.prog 119 #[.pointer (some ⟨Y.bs, 0, none⟩)] w fun e w' => ∃ zs, PinL h zs ∧ ListBack w zs e w' := by
  have hm := r.map
  have hbs := r.lt _ r.ss.1
  have hm1 : ∀ x, (w.alloc x).cell? ⟨Y.bs, 2, none⟩ = some (.map (some Y.bm)) := fun x => by rw [World.cell?_alloc_lt _ _ _ hbs]; exact hm
  obtain ⟨D, d1, d2⟩ := r.objs
  have HR := hide r
  have HD2 := hide d2
  have hmany := r.good.many
  have hsz0 : Maps.size D ≤ 200 := by
    rw [d2.size (ownsMap_keys d1 lawI)]
    have h1 := Tm.countOf_room h.l
    have h2 := r.good.fits
    have h3 := r.good.small
    rw [countOf_cnt] at h1
    omega
  have hbm := r.lt _ r.sm.1
  clear r
  go_enter Tryz.func119, Tryz.ntmps119
  go_wp2_with (first
    | (at_range; refine wpList_range_own _ rfl _ 127 rfl 3 99 lawI Tryz.underlying127 ptrElem Y.bm h.l.length D rfl (d1.alloc _) ?_; intro w0 hrg0 hg0 hs0)
    | go_in)
  go_frame
  have e1 : (w.alloc (.cells #[] 3)).heap.size = w.heap.size + 1 := by simp
  rw [e1] at hrg0 hs0 ⊢
  go_loopw [3] (fun sv wr => PinInv w h Y D sv wr)
    (fun _ wr => wr.rangeLeft Y.bm (w.heap.size + 1))
  case atStart =>
    refine ⟨_, _, [], w.heap.size, 0, hrg0, fun _ h => h, rfl, ?_, by omega, fun x => ?_, by simp, (Below.alloc0 w _).trans ((Below.of_grown hg0).mono (by simp))⟩
    · exact (IRow.empty (base := w.heap.size) (w' := w.alloc (.cells #[] 3)) _ (Nat.le_refl _) (by simpa using heap_alloc_new w (.cells #[] 3))).block (fun a ha => by cases ha; exact hg0.block _ (by simp) (by simp))
    · simp only [List.not_mem_nil, false_iff]
      rintro ⟨j, h1, h2, h3, _⟩
      rw [HD2.out.hasN j, decide_eq_true h1, h2] at h3
      cases h3
  case round =>
    obtain ⟨left, ct, zs, g, cap, hrg, hsub, rfl, hrow, hgne, hmem, hcnt, hbl⟩ := hrel
    have HI := hide hrow
    have HMem := hide hmem
    have HSub := hide hsub
    have HBl := hide hbl
    have HRg := hide hrg
    have hgl := (hrow.lt rfl).2
    have hsz := hbl.size
    have hrl := hrg.lt
    clear hrow hmem hsub hbl
    go_wp2_with (first
      | (at_next; refine wpList_next_objs _ rfl _ rfl 3 lawI Y.bm (w.heap.size + 1) h.l.length D left ct h.l.length (alive h) Y.ob HD2.out HSub.out Tryz.underlying3 rfl hrg ?_ ?_)
      | go_in)
    · intro _ hl0
      go_wp2_with fail
      go_ret
      refine ⟨zs, ⟨by omega, fun x => (HMem.out x).trans ?_⟩, g, cap, rfl, HI.out, HBl.out⟩
      constructor
      · rintro ⟨j, h1, h2, _, h4, h5⟩; exact ⟨j, h1, h2, h4, h5⟩
      · rintro ⟨j, h1, h2, h4, h5⟩; exact ⟨j, h1, h2, hl0 _, h4, h5⟩
    · intro j w1 cnt1 hj ha hlj hrg1 hlt hg1 hs1 hen
      have hbl1 := grown_below HBl.out (show w.heap.size ≤ w.heap.size + 1 by omega) hg1
      have oj := (HR.out.below hbl1 (Nat.le_refl _)).obj j hj ha
      have cp := oj.pins
      have hpn := HR.out.good.pins j hj
      have HI1 := hide (HI.out.block (w' := w1) (fun a ha => by cases ha; exact hg1.block _ hgl (by simp; exact hgne)))
      have HBl1 := hide hbl1
      have HRg1 := hide hrg1
      have HPn : ∀ x, Hid ((∃ i, i < h.l.length ∧ alive h i = true ∧ (left (key i) && !(key i).sameKey (key j)) = false ∧ 0 < (h.l.getD i Tm.ob0).pins ∧ x = (i : Int) + 1) ↔ x ∈ zs ∨ (0 < (h.l.getD j Tm.ob0).pins ∧ x = (j : Int) + 1)) := fun x => by
        show _ ↔ _
        rw [HMem.out x]
        constructor
        · rintro ⟨i, q1, q2, q3, q4, q5⟩
          by_cases e : i = j
          · subst e; exact Or.inr ⟨q4, q5⟩
          · rw [sameKey_ne (fun e2 => e (key_inj e2))] at q3
            exact Or.inl ⟨i, q1, q2, by simpa using q3, q4, q5⟩
        · rintro (⟨i, q1, q2, q3, q4, q5⟩ | ⟨q4, q5⟩)
          · exact ⟨i, q1, q2, by rw [q3]; rfl, q4, q5⟩
          · exact ⟨j, hj, ha, by rw [WideAt.sameKey_self (key_is j)]; simp, q4, q5⟩
      have HSub1 : Hid (∀ kl, (left kl && !kl.sameKey (key j)) = true → Maps.has D kl = true) := fun kl hk => HSub.out kl (by simp at hk; exact hk.1)
      have hgl1 : g < w1.heap.size := by omega
      have hz1 : w.heap.size + 1 < w1.heap.size := by omega
      clear oj hbl1 hrg hrg1 hg1
      generalize (h.l.getD j Tm.ob0).pins = pn at *
      by_cases hp : 0 < pn
      · have hpd : decide (pn > 0) = true := by simpa using hp
        go_wp2_with (first
          | (at_builtin; refine wpList_append_ints _ rfl _ _ rfl w.heap.size (some ⟨g, 0, none⟩) cap zs _ rfl rfl (HI1.out.block (fun a ha => by cases ha; exact (Below.alloc0 w1 _).block _ hgl1)) _ 1 1 [(j : Int) + 1] rfl rfl (fun i hi => by obtain rfl : i = 0 := (by omega); rw [Addr.add_lit, World.cell?_alloc_at _ _ _ _ (by simp [hs1])]; rfl) (by omega) (by simp; omega) ?_)
          | fail)
        intro p' cap' w' hrow' hgr hnn hloc
        obtain ⟨g', rfl⟩ : ∃ g', p' = some ⟨g', 0, none⟩ := by
          obtain ⟨g', e, _⟩ := hrow'.at (Or.inr hnn)
          exact ⟨g', e⟩
        have hg' : g' = g ∨ g' = w1.heap.size + 1 := by
          have := hloc _ rfl
          simp [hs1] at this ⊢
          omega
        have HRow := hide hrow'
        have HB1 : Hid (Below w.heap.size w w') := by
          refine below_own (w1 := w1.alloc _) ?_ (fun a ha => ?_) hgr
          · exact HBl1.out.trans (Below.mono (B := w1.heap.size) (Below.alloc0 _ _) (by omega))
          · cases ha; exact (HI.out.lt rfl).1
        have HRg2 : Hid (w'.ranges Tryz.prog 3 ptrElem Y.bm (w.heap.size + 1) h.l.length D (fun z => left z && !z.sameKey (key j)) cnt1) := (HRg1.out.alloc _).kept hgr (by simp [Value.ownBlock]; have := (HI.out.lt rfl).1; simp at this; omega) (by simp [Value.ownBlock]; omega)
        clear hrow' hgr hloc hnn
        go_wp2_with fail
        go_roundw
        case rel =>
          refine ⟨_, cnt1, zs ++ [(j : Int) + 1], g', cap', HRg2.out, HSub1.out, by simp, HRow.out, by omega, fun x => ?_, by simp; omega, HB1.out⟩
          rw [(HPn x).out, List.mem_append, List.mem_singleton]
          constructor
          · rintro (q | q); exact Or.inl q; exact Or.inr ⟨hp, q⟩
          · rintro (q | q); exact Or.inl q; exact Or.inr q.2
        case measure => rw [HRg2.out.left_eq, HRg.out.left_eq]; exact hlt
      · have hpd : decide (pn > 0) = false := by simpa using hp
        go_wp2_with fail
        go_roundw
        case rel =>
          refine ⟨_, cnt1, zs, g, cap, HRg1.out, HSub1.out, rfl, HI1.out, hgne, fun x => ?_, by omega, HBl1.out⟩
          rw [(HPn x).out]
          constructor
          · exact fun q => Or.inl q
          · rintro (q | q); exact q; exact absurd q.1 (by omega)
        case measure => rw [HRg1.out.left_eq, HRg.out.left_eq]; exact hlt
end Go.Proofs.YtcnmfljpmpgnjaaGreatDoor

namespace Go.Proofs
open Go.RowKit Go.Maps Go.Sort Go.Shelf

/-- slices.Sort's two contracts at this dump, at the fence that asks nothing. -/
theorem Tryz.sortsA (m : Nat) : AnyZI.SortsIn Tryz.prog Tryz.sortedA_ren Fence.wide m :=
  ⟨fun blk off cap ss W hH hblk hsz => callsIn_wide.2 (AnyM.slices_Sort_int Tryz.sortA blk off cap ss W hH hblk hsz),
   fun p cap W => callsIn_wide.2 (AnyM.slices_Sort_int_none Tryz.sortA p cap W)⟩

/-- maps.Keys of the objects. -/
theorem Tryz.keysC (mb : Option Nat) (W : World) : Calls Tryz.prog 122 #[.map mb] W fun e w' => e = .returned (.func (.func 160) #[] #[.pointer (some ⟨W.heap.size, 0, none⟩)]) ∧ w' = W.alloc (.cells #[.map mb] 127) :=
  (callsIn_wide (n := 5)).1 (AnyZI.keys_in Tryz.keysA Fence.wide 5 trivial rfl mb W)

/-- slices.Sorted of them. -/
theorem Tryz.sortedC {H : Type} (b nn : Nat) (D0 : DataW H) (R : Value → Option (DataW H × List MemPlace)) (w : World) (hown : w.ownsMap Tryz.prog 3 R b nn D0) (hmax : Maps.size D0 ≤ maxLen) (hbytes : Maps.size D0 * 8 ≤ 140737488355328) :
    Calls Tryz.prog 121 #[.func (.func 160) #[] #[.pointer (some ⟨w.heap.size, 0, none⟩)]] (w.alloc (.cells #[.map (some b)] 127)) fun e w' => ∃ (v : Value) (ss : List Int), e = .returned v ∧ ss.Perm (intKeys D0) ∧
      w'.ownsRow w.heap.size 3 1 v ss.length ((ss.mergeSort (fun x y => decide (x ≤ y))).map encZ) ∧ (v = .slice none 0 0 ↔ ss = []) ∧ Below w.heap.size w w' := by
  refine (callsIn_wide (n := 5)).1 ?_
  have hbl := hown.lt
  have hseq : SeqGives Fence.wide 2 Tryz.prog 160 #[.pointer (some ⟨w.heap.size, 0, none⟩)] encZ (fun ss => ss.Perm (intKeys D0)) (Maps.size D0) (w.alloc (.cells #[.map (some b)] 127)) :=
    AnyZI.keys_gives (ρ := Tryz.keysA_ren) { Tryz.keysA with } Fence.wide _ trivial rfl (by omega) w.heap.size b nn D0 _ (by simp) (by simp) (by
      obtain ⟨es, clock, hb, Ft, hs, hD⟩ := hown
      exact ⟨es, clock, (Below.heap_alloc _ _ b hbl).trans hb, Ft, hs, hD⟩)
  have cS := AnyZI.sorted_in Tryz.sortedA Fence.wide 5 trivial trivial trivial trivial rfl (by omega) (Tryz.sortsA _) (enters_of Tryz.func159 (by kernel_rfl) rfl) 160 #[.pointer (some ⟨w.heap.size, 0, none⟩)] trivial (enters_of Tryz.func160 (by kernel_rfl) rfl) _ _ hmax hbytes _ hseq
  change CallsIn _ _ Tryz.prog 121 _ _ _ at cS
  refine cS.mono ?_
  rintro e w' ⟨v, ss, rfl, hS, hrow, hnil, hb⟩
  exact ⟨v, ss, rfl, hS, ownsRow_base_a hrow (by simp), hnil, ((Below.refl _ w).alloc (Nat.le_refl _) _).trans (hb.mono (by simp))⟩
end Go.Proofs
