import Derived.Test.YtcnmfljpmpgnjaaGreatDoorK33
import Derived.Test.YtcnmfljpmpgnjaaGreatDoorK35
import Derived.Test.YtcnmfljpmpgnjaaGreatDoorK23
import Derived.Test.YtcnmfljpmpgnjaaGreatDoorK34
import Derived.Test.YtcnmfljpmpgnjaaGreatDoorK24
import Derived.Test.YtcnmfljpmpgnjaaGreatDoorK16
namespace Go.Proofs.YtcnmfljpmpgnjaaGreatDoor
open Go.RowKit
open Tm (H Ob Sl Why)

/-- The world in which 'ended' makes its calls. -/
def endW (w : World) (pa ra : Nat) : World := w.alloc (.cells #[.pointer (some ⟨pa, 0, none⟩), .pointer (some ⟨ra, 0, none⟩)] 116)

set_option maxRecDepth 100000 in
set_option maxHeartbeats 4000000 in
theorem ended_law (w : World) (wb pa ra : Nat) (l : List Int) (hl : l.length ≤ 4398046511104) (Q1 : Option Addr → Nat → World → Prop) (Q2 : Option Addr → Nat → World → Prop) (Q3 : World → Prop)
    (h1 : Calls Tryz.prog 32 #[.pointer (some ⟨pa, 0, none⟩)] (endW w pa ra) fun e w' => ∃ p c, e = .returned (.slice p l.length c) ∧ Q1 p c w' ∧ w'.heap[w.heap.size]? = (endW w pa ra).heap[w.heap.size]?)
    (h2 : ∀ p c w2, Q1 p c w2 → Calls Tryz.prog 138 #[.pointer (some ⟨ra, 0, none⟩)] w2 fun e w' => ∃ q d bp bq, e = .returned (.slice q l.length d) ∧ Q2 p c w' ∧ (0 < l.length → p = some ⟨bp, 0, none⟩ ∧ q = some ⟨bq, 0, none⟩) ∧ ∀ i, i < l.length → w'.cell? ⟨bp, i, none⟩ = some (.int .i64 (l.getD i 0)) ∧ w'.cell? ⟨bq, i, none⟩ = some (.int .i64 (l.getD i 0)))
    (h3 : ∀ p c w3, Q2 p c w3 → ∀ k, Calls Tryz.prog 139 #[.pointer (some ⟨wb, 1, none⟩), .slice p l.length c] (w3.drewN k) fun e w' => e = .returned (.tuple #[]) ∧ Q3 w') :
    Calls Tryz.prog 110 #[.pointer (some ⟨wb, 0, none⟩), .agg #[.pointer (some ⟨pa, 0, none⟩), .pointer (some ⟨ra, 0, none⟩)]] w fun e w' => e = .returned (.bool true) ∧ Q3 w' := by
  have H1 := hide h1
  have H2 := hide h2
  have H3 := hide h3
  clear h1 h2 h3
  go_enter Tryz.func110, Tryz.ntmps110
  go_wp2_with fail
  refine H1.out.mono ?_
  rintro e w2 ⟨p, c, rfl, hq1, hbx⟩
  have p1 : w2.cell? ⟨w.heap.size, 1, none⟩ = some (.pointer (some ⟨ra, 0, none⟩)) := by
    rw [cell_of hbx]; unfold endW; rw [World.cell?_alloc_new]; rfl
  have H2' := hide (H2.out p c w2 hq1)
  clear hq1 hbx H1 H2
  go_wp2_with fail
  refine H2'.out.mono ?_
  rintro e w3 ⟨q, d, bp, bq, rfl, hq2, hpq, hcell⟩
  have HPQ := hide hpq
  have HCell := hide hcell
  have H3' := hide (H3.out p c w3 hq2)
  clear hpq hcell hq2 H3 H2'
  go_wp2_with fail
  go_loopw [7, 8] (fun kv iv w' => ∃ i k : Nat, i ≤ l.length ∧ iv = .int .i64 i ∧ kv = .bool true ∧ w' = w3.drewN k) (fun _ iv _ => l.length - (intOf iv).toNat)
  case atStart => exact ⟨0, 0, by omega, rfl, rfl, rfl⟩
  case round =>
    obtain ⟨i, k, hi, rfl, rfl, rfl⟩ := hrel
    by_cases hlt : i < l.length
    · have bi : (i : Int) < (l.length : Int) := by omega
      obtain ⟨rfl, rfl⟩ := HPQ.out (by omega)
      obtain ⟨c1, c2⟩ := HCell.out i hlt
      generalize l.getD i 0 = x at *
      go_wp2_with fail
      go_region
      all_goals go_wp2_with fail
      all_goals exact ⟨⟨i + 1, k + 1, by omega, by go_num, rfl, rfl⟩, by simp [intOf]; omega⟩
    · have bi : ¬ (i : Int) < (l.length : Int) := by omega
      go_wp2_with fail
      refine (H3'.out k).mono ?_
      rintro e w4 ⟨rfl, hq3⟩
      have HQ3 := hide hq3
      clear hq3
      go_wp2_with fail
      go_ret
      exact ⟨rfl, HQ3.out⟩

set_option maxRecDepth 100000 in
set_option maxHeartbeats 4000000 in
theorem asked_Ended (w : World) (wb pa ra : Nat) (xA xB xD xE c0 c1 c2 c3 : Int) (cp : Option Addr) (cn cc : Nat) (Q : World → Prop)
    (h1 : Calls Tryz.prog 110 #[.pointer (some ⟨wb, 0, none⟩), .agg #[.pointer (some ⟨pa, 0, none⟩), .pointer (some ⟨ra, 0, none⟩)]] (askW w pa ra 14 xA xB xD xE c0 c1 c2 c3 cp cn cc) fun e w' => e = .returned (.bool true) ∧ Q w') :
    Calls Tryz.prog 81 #[.pointer (some ⟨wb, 0, none⟩), .agg #[.pointer (some ⟨pa, 0, none⟩), .pointer (some ⟨ra, 0, none⟩)], .agg #[.int .i64 14, .int .i64 xA, .int .i64 xB, .int .i64 xD, .int .i64 xE, .int .i64 c0, .int .i64 c1, .int .i64 c2, .int .i64 c3, .slice cp cn cc]] w fun e w' => e = .returned (.bool true) ∧ Q w' := by
  have H1 := hide h1
  clear h1
  go_enter Tryz.func81, Tryz.ntmps81
  go_wp2_with fail
  refine H1.out.mono ?_
  rintro e w2 ⟨rfl, hq⟩
  have HQ := hide hq
  clear hq
  go_wp2_with fail
  go_ret
  exact ⟨rfl, HQ.out⟩
end Go.Proofs.YtcnmfljpmpgnjaaGreatDoor

namespace Go.Proofs.YtcnmfljpmpgnjaaGreatDoor
open Go.RowKit
open Tm (H Ob Sl Why)

set_option maxRecDepth 100000 in
set_option maxHeartbeats 4000000 in
theorem extern_any {S : Nat → Prop} {tag : Nat → Nat × Nat} {w : World} {a : Nat} {Y : Lay} {h : H} (r : Rep S tag w a Y h) (name : Int)
    (hn : h.toldOK) (hmany : h.l.length + 1 < 4398046511104) :
    Calls Tryz.prog 149 #[.pointer (some ⟨a, 0, none⟩), .int .i64 name] w
      (Made S w a h (Tm.inR name 0 1000000000 = true ∧ h.needs []) (fun M => h.extern M name) S (fun _ => False)) := by
  have HR := hide r
  have HN := hide hn
  cases hc : Tm.inR name 0 1000000000
  · clear r hn
    go_enter Tryz.func149, Tryz.ntmps149
    go_wp2_with fail
    refine (in_any _ _ _ _).mono ?_
    rintro e w' ⟨rfl, rfl⟩
    rw [hc]
    go_wp2_with fail
    refine bodyPost_ret (v := .tuple #[.int .i64 0, .agg #[.int .i64 1, .int .i64 0]]) (by simp [results, Tryz.results149, go_sem]) rfl ⟨[], (fun q => by cases q.1), by unfold H.extern; rw [hc]; rfl, S, tag, Y, by unfold H.extern; rw [hc]; exact HR.out.alloc _, Kept.of_below (Below.alloc0 _ _), fun b hb => Or.inl hb⟩
  · have HMk : Hid (∀ M, h.extern M name = h.makeBy M [] name) := fun M => by unfold H.extern; rw [hc]; rfl
    have hnew : ∀ o, NewAt S tag ((w.alloc o).alloc (.cells #[.slice none 0 0, .slice none 0 0, .int .i64 0, .int .i64 name, .bool false] 205)) (w.heap.size + 1) 0 none 0 [] name := fun o => by
      refine ⟨fun e => by have := r.lt _ e; omega, by simp, fun i => World.frozen?_alloc_at _ _ _ _ (by simp), by rw [World.cell?_alloc_at _ _ _ _ (by simp)]; rfl, by rw [World.cell?_alloc_at _ _ _ _ (by simp)]; rfl, by rw [World.cell?_alloc_at _ _ _ _ (by simp)]; rfl, by rw [World.cell?_alloc_at _ _ _ _ (by simp)]; rfl, by rw [World.cell?_alloc_at _ _ _ _ (by simp)]; rfl, by simp, fun h0 => by simp at h0, fun i hi => by simp at hi⟩
    have HC := fun o => hide (make_all ((r.alloc o).alloc (.cells #[.slice none 0 0, .slice none 0 0, .int .i64 0, .int .i64 name, .bool false] 205)) _ _ _ _ _ _ (hnew o) hn hmany)
    clear r hn hnew
    go_enter Tryz.func149, Tryz.ntmps149
    go_wp2_with fail
    refine (in_any _ _ _ _).mono ?_
    rintro e w' ⟨rfl, rfl⟩
    rw [hc]
    go_wp2_with fail
    refine ((HC _).out).mono ?_
    rintro e w2 ⟨M, hM, rfl, S', tag', Y', r2, kk, hsub⟩
    dsimp only at r2 ⊢
    have hz := kk.size
    simp at hz
    have hN2 : w2.heap[w.heap.size]? = (w.alloc (.cells #[.int .i64 0, .int .i64 0] 161)).heap[w.heap.size]? := by
      rw [kk.block _ (by simp; omega) (by rintro (q | q); (have := HR.out.lt _ q; omega); omega)]
      exact Below.heap_alloc _ _ _ (by simp)
    have d0 : w2.cell? ⟨w.heap.size, 0, none⟩ = some (.int .i64 0) := by rw [cell_of hN2]; simp
    have d1 : w2.cell? ⟨w.heap.size, 1, none⟩ = some (.int .i64 0) := by rw [cell_of hN2]; simp
    have df : ∀ i, w2.frozen? ⟨w.heap.size, i, none⟩ = false := fun i => by rw [frozen_of hN2]; simp
    have hsub2 : ∀ b, S' b → S b ∨ w.heap.size + 1 ≤ b := fun b hb => by
      rcases hsub b hb with q | (q | ⟨q, q0⟩) | q
      · exact Or.inl q
      · exact Or.inr (by omega)
      · simp at q0
      · simp at q; exact Or.inr (by omega)
    have HS2 := hide hsub2
    have HNot : Hid (¬ S' w.heap.size) := fun e => by rcases hsub2 _ e with q | q; (have := HR.out.lt _ q; omega); omega
    have HR2 := hide r2
    have HK2 := hide kk
    have HM := hide hM
    clear r2 kk hM hsub hsub2 hN2
    simp only [whyV]
    obtain ⟨R, eR⟩ : ∃ R, h.makeBy M [] name = R := ⟨_, rfl⟩
    rw [eR] at HR2 ⊢
    have ER := hide eR
    clear eR
    go_wp2_with fail
    refine bodyPost_ret (v := .tuple #[.int .i64 R.1.1, .agg #[.int .i64 R.1.2.reason, .int .i64 R.1.2.handle]]) (by simp [results, Tryz.results149, go_sem, d0, d1]) rfl ⟨M, fun q => HM.out q.2, by simp only [HMk.out M, ER.out]; rfl, S', tag', Y', ?_, ?_, fun b hb => ?_⟩
    · simp only [HMk.out M, ER.out]
      repeat (first | exact HR2.out | refine Rep.other ?_ HNot.out _)
    · have HK' : Kept S w w2 := ⟨HK2.out.os, HK2.out.tape, HK2.out.output, by omega, fun b hb hn => by
        rw [HK2.out.block b (by simp; omega) (by rintro (q | q); exact hn q; omega), Below.heap_alloc _ _ _ (by simp; omega), Below.heap_alloc _ _ _ hb]⟩
      repeat (first | exact HK' | refine Kept.setCell ?_ (Or.inr (by simp)) _)
    · rcases HS2.out b hb with q | q
      · exact Or.inl q
      · exact Or.inr (Or.inr (by omega))

theorem Rep.told {S : Nat → Prop} {tag : Nat → Nat × Nat} {w : World} {a : Nat} {Y : Lay} {h : H} (r : Rep S tag w a Y h) :
    Rep S tag (w.setCell ⟨a, 11, none⟩ (.slice none 0 0)) a { Y with ce := 0, pe := none } h.told := by
  have hne : ∀ b, tag b ≠ (0, 0) → (w.setCell ⟨a, 11, none⟩ (.slice none 0 0)).heap[b]? = w.heap[b]? := fun b hb =>
    Below.heap_setCell _ _ _ _ (fun e => hb (by rw [show b = a from e]; exact r.tagA))
  have na : ∀ {i : Nat}, i ≠ 11 → (w.setCell ⟨a, 11, none⟩ (.slice none 0 0)).cell? ⟨a, i, none⟩ = w.cell? ⟨a, i, none⟩ := fun h => World.cell?_setCell_other _ _ _ _ (fun e => h (congrArg Addr.off e).symm)
  obtain ⟨cp, cc, c1, c2⟩ := r.classes
  refine ⟨fun b hb => by rw [World.size_setCell]; exact r.lt b hb, fun b i hb => by rw [World.frozen?_setCell]; exact r.soft b i hb, ⟨r.tabs.sa, r.tabs.t0, by rw [na (by omega)]; exact r.tabs.zero, fun k k0 k4 => ?_⟩, r.tagA, r.tagT,
    by rw [na (by omega)]; exact r.room, r.small, by rw [na (by omega)]; exact r.frames, r.fr, by rw [na (by omega)]; exact r.list, r.many, r.cap, r.listAt, fun h0 => by rw [hne _ (by rw [(r.listAt h0).2.2]; simp)]; exact r.block h0, r.capm, r.empty, fun i hi => ?_, fun i hi => ?_, ⟨World.cell?_setCell_same _ _ _ r.ended.head, Nat.le_refl _, Nat.zero_le _, (fun h0 => absurd h0 (Nat.lt_irrefl 0)), fun _ => rfl, (fun i hi => absurd hi (Nat.not_lt_zero i))⟩, ⟨cp, cc, by rw [na (by omega)]; exact c1, c2⟩, r.few, r.refs, fun i hi => ?_, r.wf⟩
  · have h1 := r.tabs.tab k k0 k4
    have hb := hne (Y.bt k) (by rw [r.tagT k k0 k4]; simp)
    exact ⟨h1.sa, h1.sb, h1.len, by rw [na (by omega)]; exact h1.head, fun i hi => by rw [cell_of hb]; exact h1.gen i hi, fun i hi => by rw [cell_of hb]; exact h1.ob i hi, fun i hi => by rw [cell_of hb]; exact h1.frame i hi, fun i => by rw [frozen_of hb]; exact h1.soft i⟩
  · have := r.cap
    have hi' : i < h.l.length := hi
    rw [cell_of (hne _ (by rw [(r.listAt (by omega)).2.2]; simp))]; exact r.ptr i hi
  · have oi := r.obj i hi
    exact oi.at (hne _ (by rw [oi.t]; simp)) (fun h0 => hne _ (fun e => by have := oi.kt h0; rw [e] at this; simp at this)) (fun h0 => hne _ (by rw [oi.vt h0]; simp))
  · obtain ⟨h1, h2, v, h3, h4⟩ := r.clas i hi
    exact ⟨h1, h2, v, by rw [cell_of (hne _ (by rw [(c2 (by have : i < h.classes.length := hi; omega)).2.2]; simp))]; exact h3, h4.at fun h0 => hne _ (fun e => by
      rcases h2 with h2 | h2
      · rw [e] at h2; simp at h2
      · have h0' : 0 < (h.classes.getD i []).length := h0
        rw [h2] at h0'; simp at h0')⟩

/-- What Told leaves: the names, in memory. -/
def ToldPost (S : Nat → Prop) (w : World) (a : Nat) (h : H) (e : Ending) (w' : World) : Prop :=
  ∃ p c b, e = .returned (.slice p h.ended.length c) ∧ (0 < h.ended.length → p = some ⟨b, 0, none⟩ ∧ S b) ∧ (∀ i, i < h.ended.length → w'.cell? ⟨b, i, none⟩ = some (.int .i64 (h.ended.getD i 0))) ∧ (∃ tag Y, Rep S tag w' a Y h.told) ∧ Kept S w w'

set_option maxHeartbeats 1000000 in
theorem told_any {S : Nat → Prop} {tag : Nat → Nat × Nat} {w : World} {a : Nat} {Y : Lay} {h : H} (r : Rep S tag w a Y h) :
    Calls Tryz.prog 138 #[.pointer (some ⟨a, 0, none⟩)] w (ToldPost S w a h) := by
  have c11 := r.ended.head
  have f11 := r.soft a 11 r.tabs.sa
  have HE : Hid (ToldPost S w a h (.returned (.slice Y.pe h.ended.length Y.ce)) (w.setCell ⟨a, 11, none⟩ (.slice none 0 0))) := by
    refine ⟨Y.pe, Y.ce, Y.be, rfl, fun h0 => ?_, fun i hi => ?_, ⟨tag, _, r.told⟩, (Kept.refl S w).setCell (Or.inl r.tabs.sa) _⟩
    · have q := r.ended.one (by have := r.ended.cap; omega)
      exact ⟨q.1, q.2.1⟩
    · have q := r.ended.one (by have := r.ended.cap; omega)
      rw [World.cell?_setCell_other _ _ _ _ (fun e => by have h1 := congrArg Addr.block e; have h2 : a = Y.be := h1; have h3 := q.2.2.1; rw [← h2, r.tagA] at h3; simp at h3)]
      exact r.ended.cells i hi
  clear r
  go_enter Tryz.func138, Tryz.ntmps138
  go_wp2_with fail
  go_ret
  exact HE.out
end Go.Proofs.YtcnmfljpmpgnjaaGreatDoor

namespace Go.Proofs.YtcnmfljpmpgnjaaGreatDoor
open Go.RowKit
open Tm (H Ob Sl Why)

/-- What the program's Ended leaves. -/
def EPostR (R : (Nat → Prop) → World → Nat → H → Prop) (S : Nat → Prop) (w : World) (a : Nat) (l : List Int) (h' : H) (e : Ending) (w' : World) : Prop :=
  ∃ p c b S', e = .returned (.slice p l.length c) ∧ AnsAt w' p l.length c b ∧ (0 < c → ¬ S' b ∧ (S b ∨ w.heap.size ≤ b)) ∧ (∀ i, i < l.length → w'.cell? ⟨b, i, none⟩ = some (.int .i64 (l.getD i 0))) ∧ R S' w' a h' ∧ Kept S w w' ∧ ∀ x, S' x → S x ∨ w.heap.size ≤ x

/-- What Ended, of both, leaves of a pair and of the book. -/
def EndOne (R : (Nat → Prop) → World → Nat → H → Prop) (N : Nat) (Sp Sr : Nat → Prop) (w : World) (p q : Nat) (h' : H) (wb : Nat) (KB : Nat → Prop) (nK : Nat) (w' : World) : Prop :=
  ∃ Sp' Sr' KB' cK' bK' pK', Pair R N Sp' Sr' w' p q h' ∧ BookAt w' wb KB' (nK + 4) cK' bK' pK' ∧ Kept (fun b => Sp b ∨ Sr b ∨ b = wb ∨ KB b) w w' ∧ (∀ b, Sp' b → Sp b ∨ w.heap.size ≤ b) ∧ (∀ b, Sr' b → Sr b ∨ w.heap.size ≤ b) ∧ (∀ b, KB' b → KB b ∨ Sp b ∨ w.heap.size ≤ b) ∧ (∀ b, KB' b → ¬ (Sp' b ∨ Sr' b)) ∧ (∀ i, i ≠ 1 → w'.cell? ⟨wb, i, none⟩ = w.cell? ⟨wb, i, none⟩) ∧ ∀ i, w'.frozen? ⟨wb, i, none⟩ = w.frozen? ⟨wb, i, none⟩

theorem AnsAt.drewN {w : World} {p : Option Addr} {n c b : Nat} (h : AnsAt w p n c b) (k : Nat) : AnsAt (w.drewN k) p n c b := ⟨h.cap, h.capm, h.one⟩
theorem BookAt.drewN {w : World} {wb : Nat} {KB : Nat → Prop} {n cK bK : Nat} {pK : Option Addr} (h : BookAt w wb KB n cK bK pK) (k : Nat) : BookAt (w.drewN k) wb KB n cK bK pK := h.at rfl rfl (fun _ _ => rfl) (Nat.le_refl _)

section
variable {R : (Nat → Prop) → World → Nat → H → Prop} {N : Nat} {A : Nat → Addr} {Sp Sr : Nat → Prop} {w : World} {p q : Nat} {h : H}

theorem pair_Ended (ok : ROK R) (P : Pair R N Sp Sr w p q h) (hE : Errs N A w) (wb : Nat) {KB : Nat → Prop} {nK cK bK : Nat} {pK : Option Addr} (bk : BookAt w wb KB nK cK bK pK) (h4 : nK % 4 = 0) (hn : (nK + 4) * 24 ≤ 140737488355328) (hwb : wb < w.heap.size) (hw : ¬ (Sp wb ∨ Sr wb)) (hkb : ∀ b, KB b → ¬ (Sp b ∨ Sr b)) (hlen : h.ended.length ≤ 4398046511104)
    (xA xB xD xE c0 c1 c2 c3 : Int) (cp : Option Addr) (cn cc : Nat)
    (hp : ∀ W, Below w.heap.size w W → Calls Tryz.prog 32 #[.pointer (some ⟨p, 0, none⟩)] W (EPostR R Sp W p h.ended h.told)) :
    Calls Tryz.prog 81 #[.pointer (some ⟨wb, 0, none⟩), .agg #[.pointer (some ⟨p, 0, none⟩), .pointer (some ⟨q, 0, none⟩)], .agg #[.int .i64 14, .int .i64 xA, .int .i64 xB, .int .i64 xD, .int .i64 xE, .int .i64 c0, .int .i64 c1, .int .i64 c2, .int .i64 c3, .slice cp cn cc]] w fun e w' => e = .returned (.bool true) ∧ EndOne R N Sp Sr w p q h.told wb KB nK w' := by
  have hbW := askW_below w p q 14 xA xB xD xE c0 c1 c2 c3 cp cn cc
  have hzW := askW_size w p q 14 xA xB xD xE c0 c1 c2 c3 cp cn cc
  refine asked_Ended w wb p q xA xB xD xE c0 c1 c2 c3 cp cn cc _ ?_
  generalize askW w p q 14 xA xB xD xE c0 c1 c2 c3 cp cn cc = W at *
  have hbV : Below w.heap.size w (endW W p q) := hbW.trans ((Below.alloc0 W _).mono (by omega))
  have hzV : (endW W p q).heap.size = w.heap.size + 3 := by simp [endW]; omega
  have PV := P.below ok hbV
  have bkV : BookAt (endW W p q) wb KB nK cK bK pK := bk.kept (T := fun _ => False) hwb (Kept.of_below hbV) id (fun _ _ => id)
  have hle := hE.le
  -- what is known behind the program's call, and behind both
  refine ended_law W wb p q h.ended hlen
    (fun p' c w2 => ∃ b S', AnsAt w2 p' h.ended.length c b ∧ (0 < c → ¬ S' b ∧ (Sp b ∨ w.heap.size + 3 ≤ b)) ∧ (∀ i, i < h.ended.length → w2.cell? ⟨b, i, none⟩ = some (.int .i64 (h.ended.getD i 0))) ∧ R S' w2 p h.told ∧ Kept Sp (endW W p q) w2 ∧ ∀ x, S' x → Sp x ∨ w.heap.size + 3 ≤ x)
    (fun p' c w3 => ∃ b S', AnsAt w3 p' h.ended.length c b ∧ (0 < c → ¬ S' b ∧ ¬ Sr b ∧ (Sp b ∨ w.heap.size + 3 ≤ b)) ∧ R S' w3 p h.told ∧ (∃ tag Y, Rep Sr tag w3 q Y h.told) ∧ Kept (fun b => Sp b ∨ Sr b) (endW W p q) w3 ∧ ∀ x, S' x → Sp x ∨ w.heap.size + 3 ≤ x)
    (fun w' => EndOne R N Sp Sr w p q h.told wb KB nK w') ((hp _ hbV).mono ?_) (fun p' c w2 hq => ?_) (fun p' c w3 hq k => ?_)
  · rintro e w2 ⟨p', c, b, S', rfl, a1, a2, a3, a4, a5, a6⟩
    refine ⟨p', c, rfl, ⟨b, S', a1, fun h0 => ⟨(a2 h0).1, by rw [← hzV]; exact (a2 h0).2⟩, a3, a4, a5, fun x hx => by rw [← hzV]; exact a6 x hx⟩, ?_⟩
    rw [a5.block W.heap.size (by omega) (fun hs => by have := (P.lp _ hs).2; omega)]
  · obtain ⟨b, S', a1, a2, a3, a4, a5, a6⟩ := hq
    obtain ⟨tag, Y, r2⟩ := ref_at ok P hbV a5
    refine (told_any r2).mono ?_
    rintro e w3 ⟨pq, d, bq, rfl, t1, t2, ⟨tag', Y', r3⟩, t4⟩
    have hz2 := a5.size
    have hz3 := t4.size
    have nsr : 0 < c → ¬ Sr b := fun h0 hs => by
      rcases (a2 h0).2 with q1 | q1
      · exact P.dj b q1 hs
      · have := (P.lr b hs).2; omega
    have hb3 : 0 < c → w3.heap[b]? = w2.heap[b]? := fun h0 => t4.block b (a1.lt h0) (nsr h0)
    have hS' : ∀ x, S' x → ¬ Sr x := fun x hx hs => by
      rcases a6 x hx with q1 | q1
      · exact P.dj x q1 hs
      · have := (P.lr x hs).2; omega
    have hlt := ok.lt _ _ _ _ a4
    refine ⟨pq, d, b, bq, rfl, ⟨b, S', a1.at hb3, fun h0 => ⟨(a2 h0).1, nsr h0, (a2 h0).2⟩, ok.same _ _ _ _ _ a4 (fun x hx => t4.block x (hlt x hx) (hS' x hx)) hz3, ⟨tag', Y', r3⟩, ?_, a6⟩, fun h0 => ⟨(a1.one (by have := a1.cap; omega)).1, (t1 h0).1⟩, fun i hi => ⟨?_, t2 i hi⟩⟩
    · exact ⟨t4.os.trans a5.os, t4.tape.trans a5.tape, t4.output.trans a5.output, Nat.le_trans hz2 hz3, fun x hx hn => (t4.block x (by omega) (fun hs => hn (Or.inr hs))).trans (a5.block x hx (fun hs => hn (Or.inl hs)))⟩
    · rw [cell_of (hb3 (by have := a1.cap; omega))]; exact a3 i hi
  · obtain ⟨b, S', a1, a2, a4, ⟨tag, Y, r3⟩, a5, a6⟩ := hq
    have hz3 := a5.size
    have bk3 : BookAt (w3.drewN k) wb KB nK cK bK pK := (bkV.kept (by omega) a5 hw (fun x hx => hkb x hx)).drewN k
    have hb : 0 < c → ¬ KB b ∧ b ≠ wb := fun h0 => by
      rcases (a2 h0).2.2 with q1 | q1
      · exact ⟨fun e => hkb b e (Or.inl q1), fun e => hw (Or.inl (e ▸ q1))⟩
      · exact ⟨fun e => by have := bk.lt b e; omega, by omega⟩
    have hz3k : (w3.drewN k).heap.size = w3.heap.size := rfl
    refine (keeps_any bk3 h4 hn (by omega) (a1.drewN k) hlen hb).mono ?_
    rintro e w' ⟨rfl, KB', cK', bK', pK', b1, b2, b3, b4, b5⟩
    refine ⟨rfl, ?_⟩
    have hz4 := b2.size
    have hlt := ok.lt _ _ _ _ a4
    have hnew : ∀ x, S' x → ¬ (x = wb ∨ KB x ∨ (0 < c ∧ x = b)) := fun x hx => by
      rintro (e | e | ⟨h0, e⟩)
      · rcases a6 x hx with q1 | q1
        · exact hw (Or.inl (e ▸ q1))
        · omega
      · rcases a6 x hx with q1 | q1
        · exact hkb x e (Or.inl q1)
        · have := bk.lt x e; omega
      · exact (a2 h0).1 (e ▸ hx)
    have hnr : ∀ x, Sr x → ¬ (x = wb ∨ KB x ∨ (0 < c ∧ x = b)) := fun x hx => by
      rintro (e | e | ⟨h0, e⟩)
      · exact hw (Or.inr (e ▸ hx))
      · exact hkb x e (Or.inr hx)
      · exact (a2 h0).2.1 (e ▸ hx)
    have hk3 : Kept (fun x => x = wb ∨ KB x ∨ (0 < c ∧ x = b)) w3 w' := ⟨b2.os, b2.tape, b2.output, b2.size, b2.block⟩
    have hwb3 : w3.heap[wb]? = w.heap[wb]? := (a5.block wb (by omega) hw).trans (hbV.block wb hwb)
    refine ⟨S', Sr, KB', cK', bK', pK', ⟨ok.same _ _ _ _ _ a4 (fun x hx => hk3.block x (hlt x hx) (hnew x hx)) hk3.size, ⟨tag, Y, r3.same (fun x hx => hk3.block x (r3.lt x hx) (hnr x hx)) hk3.size⟩, fun x hx hs => ?_, fun x hx => ⟨?_, Nat.lt_of_lt_of_le (hlt x hx) hk3.size⟩, fun x hx => ⟨(P.lr x hx).1, Nat.lt_of_lt_of_le (r3.lt x hx) hk3.size⟩⟩, b1, ?_, fun x hx => ?_, fun x hx => Or.inl hx, fun x hx => ?_, fun x hx => ?_, fun i hi => (b4 i hi).trans (cell_of hwb3), fun i => (b5 i).trans (frozen_of hwb3)⟩
    · rcases a6 x hx with q1 | q1
      · exact P.dj x q1 hs
      · have := (P.lr x hs).2; omega
    · rcases a6 x hx with q1 | q1
      · exact (P.lp x q1).1
      · omega
    · refine ⟨hk3.os.trans (a5.os.trans hbV.os), hk3.tape.trans (a5.tape.trans hbV.tape), hk3.output.trans (a5.output.trans hbV.output), by have := hk3.size; omega, fun x hx hnx => ?_⟩
      rw [hk3.block x (by omega) (by
        rintro (e | e | ⟨h0, e⟩)
        · exact hnx (Or.inr (Or.inr (Or.inl e)))
        · exact hnx (Or.inr (Or.inr (Or.inr e)))
        · rcases (a2 h0).2.2 with q1 | q1
          · exact hnx (Or.inl (e ▸ q1))
          · omega), a5.block x (by omega) (by
        rintro (e | e)
        · exact hnx (Or.inl e)
        · exact hnx (Or.inr (Or.inl e))), hbV.block x hx]
    · rcases a6 x hx with q1 | q1
      · exact Or.inl q1
      · exact Or.inr (by omega)
    · rcases b3 x hx with q1 | ⟨h0, q1⟩ | q1
      · exact Or.inl q1
      · rcases (a2 h0).2.2 with q2 | q2
        · exact Or.inr (Or.inl (q1 ▸ q2))
        · exact Or.inr (Or.inr (by omega))
      · exact Or.inr (Or.inr (by omega))
    · rintro (e | e)
      · rcases b3 x hx with q1 | q1 | q1
        · exact hnew x e (Or.inr (Or.inl q1))
        · exact hnew x e (Or.inr (Or.inr q1))
        · have := hlt x e; omega
      · rcases b3 x hx with q1 | q1 | q1
        · exact hnr x e (Or.inr (Or.inl q1))
        · exact hnr x e (Or.inr (Or.inr q1))
        · have := r3.lt x e; omega
end
end Go.Proofs.YtcnmfljpmpgnjaaGreatDoor

namespace Go.Proofs.YtcnmfljpmpgnjaaGreatDoor
open Go.RowKit Go.Maps
open Tm (H Ob Sl Why)

section
variable {S S' : Nat → Prop} {tag : Nat → Nat × Nat} {w w' : World} {a : Nat} {Y : PLay} {h : H}

theorem BaseAt.shr {bs bt bc : Nat} {cb : Nat → Nat} {cl : List (List Int)} (h : BaseAt S tag w a bs bt bc cb cl) (hs : ∀ b, S b → (tag b).1 ≠ 11 → S' b) : BaseAt S' tag w a bs bt bc cb cl := by
  obtain ⟨p, c, c1, c2⟩ := h.classes
  refine ⟨⟨hs _ h.sa.1 (by rw [h.sa.2]; simp), h.sa.2⟩, h.store, h.tables, ⟨p, c, c1, fun h0 => ⟨(c2 h0).1, hs _ (c2 h0).2.1 (by rw [(c2 h0).2.2]; simp), (c2 h0).2.2⟩⟩, fun i hi => ?_⟩
  obtain ⟨h1, v, h3, p', c', q1, q2, q3⟩ := h.clas i hi
  refine ⟨h1, v, h3, p', c', q1, fun hl => ⟨(q2 hl).1, hs _ (q2 hl).2 ?_⟩, q3⟩
  rw [h1.resolve_right (fun e => by rw [e] at hl; simp at hl)]; simp
theorem OAt.shr {b j fb : Nat} {o : Ob} (h : OAt S tag w b j fb o) (hs : ∀ b, S b → (tag b).1 ≠ 11 → S' b) : OAt S' tag w b j fb o := by
  obtain ⟨p, c, h1, h2⟩ := h.head
  exact ⟨hs _ h.s (by rw [h.t]; simp), h.t, ⟨p, c, h1, fun h0 => ⟨(h2 h0).1, hs _ (h2 h0).2.1 (by rw [(h2 h0).2.2]; simp), (h2 h0).2.2⟩⟩, h.kind, h.val, h.pins, h.named, h.name⟩
theorem TAt.shr {bt k o tg : Nat} {f : Int} {l : List Sl} (h : TAt S tag w bt k o tg f l) (hs : ∀ b, S b → (tag b).1 ≠ 11 → S' b) : TAt S' tag w bt k o tg f l :=
  ⟨hs _ h.so (by rw [h.tago]; simp), hs _ h.sg (by rw [h.tagg]; simp), h.ho, h.hg, h.hf, h.tago, h.tagg, h.ob, h.fr, h.gen⟩

/-- The names were told; the channels are let go. -/
theorem PRep.toldS (r : PRep S tag w a Y h) (hs1 : ∀ b, S' b → S b) (hs : ∀ b, S b → (tag b).1 ≠ 11 → S' b) (hz : w.heap.size ≤ w'.heap.size) (hw : ∀ b, S b → (tag b).1 ≠ 1 → (tag b).1 ≠ 11 → w'.heap[b]? = w.heap[b]?) (hf : ∀ b i, S' b → w'.frozen? ⟨b, i, none⟩ = false)
    (s0 : w'.cell? ⟨Y.bs, 0, none⟩ = w.cell? ⟨Y.bs, 0, none⟩) (s1 : w'.cell? ⟨Y.bs, 1, none⟩ = w.cell? ⟨Y.bs, 1, none⟩) (s2 : w'.cell? ⟨Y.bs, 2, none⟩ = w.cell? ⟨Y.bs, 2, none⟩) (s3 : w'.cell? ⟨Y.bs, 3, none⟩ = some (.slice none 0 0)) : PRep S' tag w' a Y h.told := by
  obtain ⟨D, d1, d2⟩ := r.objs
  refine ⟨r.good.tld, fun b hb => Nat.lt_of_lt_of_le (r.lt b (hs1 b hb)) hz, hf, (r.base.same (fun b hb q => hw b hb (by omega) (by omega))).shr hs, ⟨⟨hs _ r.ss.1 (by rw [r.ss.2]; simp), r.ss.2⟩, ⟨hs _ r.sm.1 (by rw [r.sm.2]; simp), r.sm.2⟩, s0.trans r.limit, s1.trans r.made, s2.trans r.map, ⟨D, ownsMap_block d1 (hw _ r.sm.1 (by rw [r.sm.2]; simp) (by rw [r.sm.2]; simp)), d2⟩, ⟨_, [], s3, ⟨rfl, Or.inl ⟨rfl, rfl⟩⟩, fun g hg => (by cases hg), rfl, List.nodup_nil, fun m hm => (by cases hm), fun m hm => (by cases hm)⟩⟩, ⟨hs _ r.st.1 (by rw [r.st.2]; simp), r.st.2⟩, fun j hj ha => (r.objSame (fun b hb q => hw b hb (by omega) (by omega)) j hj ha).shr hs, fun k h0 h4 => (r.tabSame k h0 h4 (fun b hb q => hw b hb (by rcases q with q | q | q <;> rw [q] <;> simp) (by rcases q with q | q | q <;> rw [q] <;> simp))).shr hs⟩
end

theorem flat_len (M : List (Nat × List Int)) (h : ∀ m ∈ M, m.2 ≠ []) : M.length ≤ (M.flatMap Prod.snd).length := by
  induction M with
  | nil => exact Nat.zero_le _
  | cons m M ih =>
    have h2 := ih (fun m hm => h m (List.mem_cons_of_mem _ hm))
    have h3 : 0 < m.2.length := List.length_pos_iff.2 (h m (List.mem_cons_self ..))
    simp only [List.flatMap_cons, List.length_append, List.length_cons]
    omega

set_option maxRecDepth 100000 in
set_option maxHeartbeats 4000000 in
theorem endedS_any {S : Nat → Prop} {tag : Nat → Nat × Nat} {w : World} {a : Nat} {Y : PLay} {h : H} (r : PRep S tag w a Y h) :
    Calls Tryz.prog 68 #[.pointer (some ⟨Y.bs, 0, none⟩)] w (EPostR PR S w a h.ended h.told) := by
  obtain ⟨v, M, hv1, hv2, hv3, hv4, hv5, hv6, hv7⟩ := r.sto.ended
  have hbs := r.lt _ r.ss.1
  have hfl := flat_len M hv6
  rw [hv4] at hfl
  have htl := Tm.told_len r.good.told
  have hmany := r.good.many
  have hnd : ∀ m ∈ M, m.1 < w.heap.size := fun m hm => r.lt _ (hv7 m hm).1
  have hsh : ∃ p b c, v = .slice p M.length c ∧ b < w.heap.size ∧ (0 < M.length → p = some ⟨b, 0, none⟩) ∧ Wait w w.heap.size b 0 0 M := by
    rcases hv2.2 with ⟨rfl, e⟩ | ⟨g, cap, cur, rfl, _, hg, hc, hcm, hsz, htk⟩
    · refine ⟨none, Y.bs, 0, by rw [e], hbs, fun h => by omega, fun j ch l hj => ?_⟩
      have : M = [] := List.length_eq_zero_iff.1 e
      subst this
      simp at hj
    · have hgS := hv3 g rfl
      refine ⟨_, g, cap, rfl, r.lt _ hgS.1, fun _ => rfl, fun j ch l hj => ?_⟩
      have hjl : j < M.length := by
        rcases Nat.lt_or_ge j M.length with h | h
        · exact h
        · rw [List.getElem?_eq_none h] at hj; cases hj
      have hm := List.mem_of_getElem? hj
      obtain ⟨q1, q2, cap', s, r', tm, q3⟩ := hv7 _ hm
      refine ⟨?_, r.lt _ q1, fun e => by rw [e, hgS.2] at q2; simp at q2, cap', s, r', tm, q3⟩
      have h9 : (cur.toList.take (M.length * 1))[j]? = (M.map fun m => Value.chan (some m.1))[j]? := by rw [htk]
      rw [List.getElem?_take, if_pos (by omega)] at h9
      simp only [Array.getElem?_toList, List.getElem?_map, hj, Option.map_some] at h9
      simp only [World.cell?, hg, Nat.zero_add]
      simpa using h9
  obtain ⟨p, b, c, rfl, hb, hp, hw⟩ := hsh
  refine (ended_any w Y.bs b 0 c p M hb hp hv1 (r.soft _ 3 r.ss.1) (by omega) hw hv5 (by rw [hv4]; omega)).mono ?_
  rintro e w' ⟨u, W, rfl, rfl, hd, hown⟩
  rw [hv4] at hown
  have hMS : ∀ k, k ∈ M.map Prod.fst → S k ∧ (tag k).1 = 11 := fun k hk => by
    obtain ⟨m, hm, rfl⟩ := List.mem_map.1 hk
    exact ⟨(hv7 m hm).1, (hv7 m hm).2.1⟩
  have hne : ∀ k, k ∈ M.map Prod.fst → k ≠ Y.bs := fun k hk e => by have := (hMS k hk).2; rw [e, r.ss.2] at this; simp at this
  have hWs : W.heap[Y.bs]? = w.heap[Y.bs]? := hd.old _ hbs (fun hk => hne _ hk rfl)
  have c3 : W.cell? ⟨Y.bs, 3, none⟩ = some (.slice p M.length c) := (cell_of hWs).trans hv1
  have hoth : ∀ i, i ≠ 3 → (W.setCell ⟨Y.bs, 3, none⟩ (.slice none 0 0)).cell? ⟨Y.bs, i, none⟩ = w.cell? ⟨Y.bs, i, none⟩ := fun i hi => by
    rw [World.cell?_setCell_other _ _ _ _ (fun e => by have := congrArg Addr.off e; simp at this; omega)]; exact cell_of hWs
  have hset : ∀ x, x ≠ Y.bs → (W.setCell ⟨Y.bs, 3, none⟩ (.slice none 0 0)).heap[x]? = W.heap[x]? := fun x hx => Below.heap_setCell _ _ _ _ hx
  have hz := hd.size
  have hsh2 : ∃ pu cu, u = .slice pu h.ended.length cu := by
    rcases hown.2 with ⟨rfl, e⟩ | ⟨g, cap, cur, rfl, _⟩
    · exact ⟨none, 0, by rw [e]⟩
    · exact ⟨_, _, rfl⟩
  obtain ⟨pu, cu, rfl⟩ := hsh2
  have hans : ∃ g, w.heap.size ≤ g ∧ AnsAt (W.setCell ⟨Y.bs, 3, none⟩ (.slice none 0 0)) pu h.ended.length cu g ∧ ∀ i, i < h.ended.length → W.cell? ⟨g, i, none⟩ = some (.int .i64 (h.ended.getD i 0)) := by
    rcases hown.2 with ⟨e, e2⟩ | ⟨g, cap, cur, e, hg0, hg, hc, hcm, hsz, htk⟩
    · simp only [Value.slice.injEq] at e
      refine ⟨w.heap.size, Nat.le_refl _, ⟨by omega, by rw [e.2.2]; exact Nat.zero_le _, fun h => by omega⟩, fun i hi => by omega⟩
    · simp only [Value.slice.injEq, true_and] at e
      obtain ⟨rfl, rfl⟩ := e
      refine ⟨g, hg0, ⟨hc, hcm, fun _ => ⟨rfl, cur, by rw [hset g (by omega)]; exact hg, by omega⟩⟩, fun i hi => ?_⟩
      have h9 : (cur.toList.take (h.ended.length * 1))[i]? = (h.ended.map (Value.int .i64))[i]? := by rw [htk]
      rw [List.getElem?_take, if_pos (by omega)] at h9
      simp only [Array.getElem?_toList, List.getElem?_map] at h9
      simp only [World.cell?, hg]
      simp [h9, List.getD_eq_getElem?_getD, List.getElem?_eq_getElem hi]
  obtain ⟨g, hg1, hg2, hg3⟩ := hans
  have hk : Kept S w (W.setCell ⟨Y.bs, 3, none⟩ (.slice none 0 0)) := by
    refine Kept.setCell ?_ (Or.inl r.ss.1) _
    exact ⟨hd.os, hd.tape, hd.output, hd.size, fun k hk hn => hd.old k hk (fun q => hn (hMS k q).1)⟩
  refine ⟨pu, cu, g, fun b => S b ∧ b ∉ M.map Prod.fst, rfl, hg2, fun _ => ⟨fun q => by have := r.lt _ q.1; omega, Or.inr hg1⟩, fun i hi => ?_, ⟨tag, Y, ?_⟩, hk, fun x hx => Or.inl hx.1⟩
  · rw [cell_of (hset g (by omega))]; exact hg3 i hi
  · refine r.toldS (fun b hb => hb.1) (fun b hb h1 => ⟨hb, fun q => h1 (hMS b q).2⟩) (by rw [World.size_setCell]; exact hz) (fun b hb h1 h2 => ?_) (fun b i hb => ?_) (hoth 0 (by omega)) (hoth 1 (by omega)) (hoth 2 (by omega)) (World.cell?_setCell_same _ _ _ c3)
    · rw [hset b (fun e => h1 (by rw [e, r.ss.2]))]; exact hd.old b (r.lt b hb) (fun q => h2 (hMS b q).2)
    · rw [World.frozen?_setCell, frozen_of (hd.old b (r.lt b hb.1) hb.2)]; exact r.soft b i hb.1

set_option maxRecDepth 100000 in
theorem endedH_any {S : Nat → Prop} {tag : Nat → Nat × Nat} {w : World} {a : Nat} {Y : PLay} {h : H} (r : PRep S tag w a Y h) :
    Calls Tryz.prog 32 #[.pointer (some ⟨a, 0, none⟩)] w (EPostR PR S w a h.ended h.told) := by
  have HS := hide (endedS_any r)
  have c1 := r.store
  clear r
  go_enter Tryz.func32, Tryz.ntmps32
  go_wp2_with (first
    | (go_at_call 68; refine HS.out.mono ?_; rintro e w' ⟨p, c, b, S', rfl, hq⟩; have HQ := hide hq; clear hq)
    | fail)
  go_ret
  exact ⟨p, c, b, S', rfl, HQ.out⟩
end Go.Proofs.YtcnmfljpmpgnjaaGreatDoor
