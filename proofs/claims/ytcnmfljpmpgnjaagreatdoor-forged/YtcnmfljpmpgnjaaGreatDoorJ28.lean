import Derived.Test.YtcnmfljpmpgnjaaGreatDoorJ26
import Derived.Test.YtcnmfljpmpgnjaaGreatDoorJ27
namespace Go.Proofs.YtcnmfljpmpgnjaaGreatDoor
open Go.RowKit
open Tm (H Ob Sl Why)

theorem Rep.setGone0 {S : Nat → Prop} {tag : Nat → Nat × Nat} {w : World} {a : Nat} {Y : Lay} {h : H} (r : Rep S tag w a Y h) (j : Nat) (hj : j < h.l.length) :
    Rep S tag (w.setCell ⟨Y.ob j, 4, none⟩ (.bool true)) a Y (h.setGone0 j) := by
  have oj := r.obj j hj
  have tv := oj.t
  have hne : ∀ b, tag b ≠ (3, j) → (w.setCell ⟨Y.ob j, 4, none⟩ (.bool true)).heap[b]? = w.heap[b]? := fun b hb =>
    Below.heap_setCell _ _ _ _ (fun e => hb (by rw [show b = Y.ob j from e]; exact tv))
  have na := hne a (by rw [r.tagA]; simp)
  have hl : (h.setGone0 j).l.length = h.l.length := by simp [H.setGone0]
  obtain ⟨cp, cc, c1, c2⟩ := r.classes
  have hg : ∀ i, (h.setGone0 j).l.getD i Tm.ob0 = if i = j then { h.l.getD j Tm.ob0 with gone := true } else h.l.getD i Tm.ob0 := fun i => Tm.getD_set _ _ _ _ _ hj
  have hk : ∀ i, ((h.setGone0 j).l.getD i Tm.ob0).kinds = (h.l.getD i Tm.ob0).kinds := fun i => by rw [hg]; split; subst_vars; rfl; rfl
  have hv : ∀ i, ((h.setGone0 j).l.getD i Tm.ob0).vals = (h.l.getD i Tm.ob0).vals := fun i => by rw [hg]; split; subst_vars; rfl; rfl
  refine ⟨fun b hb => by rw [World.size_setCell]; exact r.lt b hb, fun b i hb => by rw [World.frozen?_setCell]; exact r.soft b i hb, ⟨r.tabs.sa, r.tabs.t0, by rw [cell_of na]; exact r.tabs.zero, fun k k0 k4 => (r.tabs.tab k k0 k4).at na (hne _ (by rw [r.tagT k k0 k4]; simp))⟩, r.tagA, r.tagT,
    by rw [cell_of na]; exact r.room, r.small, by rw [cell_of na]; exact r.frames, r.fr, by rw [cell_of na, hl]; exact r.list, by rw [hl]; exact r.many, by rw [hl]; exact r.cap, r.listAt, fun h0 => by rw [hne _ (by rw [(r.listAt h0).2.2]; simp)]; exact r.block h0, r.capm, r.empty, fun i hi => ?_, fun i hi => ?_, r.ended.at (cell_of na) (fun h0 => hne _ (by rw [(r.ended.one h0).2.2.1]; simp)), ⟨cp, cc, by rw [cell_of na]; exact c1, c2⟩, r.few, fun i q hi hq hkk => ?_, fun i hi => ?_, fun k i hi => by rw [hl]; exact r.wf k i hi⟩
  · have := r.cap
    rw [hl] at hi
    rw [cell_of (hne _ (by rw [(r.listAt (by omega)).2.2]; simp))]; exact r.ptr i hi
  · rw [hl] at hi
    rw [hg]
    by_cases e : i = j
    · subst e
      rw [if_pos rfl]
      obtain ⟨kv, k1, k2⟩ := oj.kinds
      obtain ⟨vv, v1, v2⟩ := oj.vals
      have off : ∀ {x : Nat}, 4 ≠ x → (⟨Y.ob i, 4, none⟩ : Addr) ≠ ⟨Y.ob i, x, none⟩ := fun h e => h (congrArg Addr.off e)
      refine ⟨oj.s, oj.t, ⟨kv, by rw [World.cell?_setCell_other _ _ _ _ (off (by omega))]; exact k1, k2.at fun h0 => hne _ (fun e => by have := oj.kt h0; rw [e] at this; simp at this)⟩, oj.kt, ⟨vv, by rw [World.cell?_setCell_other _ _ _ _ (off (by omega))]; exact v1, v2.at fun h0 => hne _ (by rw [oj.vt h0]; simp)⟩, oj.vt, oj.eq, oj.len, by rw [World.cell?_setCell_other _ _ _ _ (off (by omega))]; exact oj.pins, oj.pin, by rw [World.cell?_setCell_other _ _ _ _ (off (by omega))]; exact oj.name, World.cell?_setCell_same _ _ _ oj.gone⟩
    · rw [if_neg e]
      have oi := r.obj i hi
      exact oi.at (hne _ (by rw [oi.t]; simp; exact e)) (fun h0 => hne _ (fun e => by have := oi.kt h0; rw [e] at this; simp at this)) (fun h0 => hne _ (by rw [oi.vt h0]; simp))
  · rw [hl] at hi ⊢
    rw [hk] at hq hkk
    rw [hv]
    exact r.refs i q hi hq hkk
  · obtain ⟨h1, h2, v, h3, h4⟩ := r.clas i hi
    exact ⟨h1, h2, v, by rw [cell_of (hne _ (by rw [(c2 (by have : i < h.classes.length := hi; omega)).2.2]; simp))]; exact h3, h4.at fun h0 => hne _ (fun e => by
      rcases h2 with h2 | h2
      · rw [e] at h2; simp at h2
      · have h0' : 0 < (h.classes.getD i []).length := h0
        rw [h2] at h0'; simp at h0')⟩

theorem marked_of {h : H} {w w' : World} {b : Nat} {M : List Bool} (m : Marks h w w' b M) (h1 : ∀ n, Tm.Root h n → M.getD n false = true) (h2 : ∀ k n, M.getD k false = true → Tm.Edge h k n → M.getD n false = true) : Tm.Marked h M :=
  ⟨m.len, fun n hn => ⟨fun hm => m.sound n hn hm, fun hr => hr (fun n => M.getD n false = true) h1 h2⟩⟩

theorem Kept.mono {S S' : Nat → Prop} {w w' : World} (h : Kept S w w') (hs : ∀ b, S b → S' b) : Kept S' w w' := ⟨h.os, h.tape, h.output, h.size, fun k hk hn => h.block k hk (fun e => hn (hs k e))⟩

/-- Where a heap lies behind a step of a collection: nothing but new memory has come to it. -/
structure Ext (N : Nat) (S : Nat → Prop) (tag : Nat → Nat × Nat) (S' : Nat → Prop) (tag' : Nat → Nat × Nat) : Prop where
  sub : ∀ b, S' b → S b ∨ N ≤ b
  five : ∀ b, S b → (tag b).1 = 5 → (tag' b).1 = 5

theorem Ext.not5 {N : Nat} {S S' : Nat → Prop} {tag tag' : Nat → Nat × Nat} (e : Ext N S tag S' tag') {b : Nat} (h : S' b) (h5 : (tag' b).1 ≠ 5) : (S b ∧ (tag b).1 ≠ 5) ∨ N ≤ b := by
  rcases e.sub b h with q | q
  · exact Or.inl ⟨q, fun x => h5 (e.five b q x)⟩
  · exact Or.inr q

theorem Ext.tell {N : Nat} {S S' : Nat → Prop} {tag tag' : Nat → Nat × Nat} {w w2 : World} {a : Nat} {Y : Lay} {h : H} (e : Ext N S tag S' tag') (r : Rep S' tag' w a Y h) {x : Int} {be' ce' : Nat} (ap : Apd 3 w w2 Y.be Y.ce be' ce' h.ended.length (.int .i64 x)) (hS : ∀ b, S b → b < w.heap.size) (hN : N ≤ w.heap.size) : Ext N S tag (tellS S' be') (tellT tag' Y be') := by
  refine ⟨fun b hb => ?_, fun b hb h5 => ?_⟩
  · rcases hb with q | rfl
    · exact e.sub b q
    · rcases ap.bl with ⟨q, q0⟩ | q
      · rw [q]; exact e.sub _ (r.ended.one q0).2.1
      · exact Or.inr (by omega)
  · have h5' := e.five b hb h5
    have n6 : 0 < Y.ce → b ≠ Y.be := fun q0 q => by rw [q, (r.ended.one q0).2.2.1] at h5'; simp at h5'
    unfold tellT
    rw [if_neg (fun q => ?_), if_neg (fun q => n6 q.2 q.1)]
    · exact h5'
    · rcases ap.bl with ⟨q1, q0⟩ | q1
      · exact n6 q0 (q.trans q1)
      · have := hS b hb; omega

/-- What is so between two steps of a collection. -/
def CollMid (S : Nat → Prop) (tag : Nat → Nat × Nat) (w : World) (a : Nat) (g : H) (M : List Bool) (w' : World) : Prop :=
  ∃ S1 tag1 Y1, Rep S1 tag1 w' a Y1 g ∧ Kept (fun b => S b ∧ (tag b).1 ≠ 5) w w' ∧ Bools w' w.heap.size M ∧ Ext (w.heap.size + 1) S tag S1 tag1 ∧ w.heap.size + 1 ≤ w'.heap.size

/-- What a collection leaves. -/
def CollPost (S : Nat → Prop) (tag : Nat → Nat × Nat) (w : World) (a : Nat) (h : H) (e : Ending) (w' : World) : Prop :=
  ∃ M S1 tag1 Y1, Tm.Marked h M ∧ e = .returned (.int .i64 (h.collNum M h.l.length)) ∧ Rep S1 tag1 w' a Y1 (h.collTo M h.l.length) ∧ Kept (fun b => S b ∧ (tag b).1 ≠ 5) w w' ∧ (∀ b, S1 b → S b ∨ w.heap.size ≤ b) ∧ ∀ b, S b → (tag b).1 = 5 → (tag1 b).1 = 5

set_option maxRecDepth 100000 in
set_option maxHeartbeats 4000000 in
theorem collect_any {S : Nat → Prop} {tag : Nat → Nat × Nat} {w : World} {a : Nat} {Y : Lay} {h : H} (r : Rep S tag w a Y h) (hn : h.toldOK) :
    Calls Tryz.prog 109 #[.pointer (some ⟨a, 0, none⟩)] w (CollPost S tag w a h) := by
  have hm := r.many
  have HR := hide r
  have HN := hide hn
  have HRe := hide (reached_any r)
  obtain ⟨iI, hiI, hp0, hp1, hp2⟩ := info_parts info3
  have HiP := hide hiI
  have HP0 := hide hp0
  have HP1 := hide hp1
  have HP2 := hide hp2
  clear hiI hp0 hp1 hp2
  clear r hn
  go_enter Tryz.func109, Tryz.ntmps109
  go_wp2_with fail
  refine HRe.out.mono ?_
  rintro e w1 ⟨rfl, M, mk, h1, h2⟩
  have HMk := hide (marked_of mk h1 h2)
  have HB := hide mk.bools
  have HBl := hide mk.below
  have HLen := hide mk.len
  have hsz : w1.heap.size = w.heap.size + 1 := mk.size
  have HSz := hide hsz
  clear hsz
  clear mk h1 h2 HRe
  go_wp2_with fail
  go_loopw [4, 5] (fun nv iv w' => ∃ (i : Nat) (S1 : Nat → Prop) (tag1 : Nat → Nat × Nat) (Y1 : Lay), i ≤ h.l.length ∧ iv = .int .i64 i ∧ nv = .int .i64 (h.collNum M i) ∧ Rep S1 tag1 w' a Y1 (h.collTo M i) ∧ Kept (fun b => S b ∧ (tag b).1 ≠ 5) w w' ∧ Bools w' w.heap.size M ∧ Ext (w.heap.size + 1) S tag S1 tag1 ∧ w.heap.size + 1 ≤ w'.heap.size) (fun _ iv _ => h.l.length - (intOf iv).toNat)
  case atStart => exact ⟨0, S, tag, Y, by omega, rfl, rfl, HR.out.below HBl.out (Nat.le_refl _), Kept.of_below HBl.out, HB.out, ⟨fun b hb => Or.inl hb, fun b _ h5 => h5⟩, by have := HSz.out; omega⟩
  case round =>
    obtain ⟨i, S1, tag1, Y1, hi, rfl, rfl, rr, kk, bb, ex, hz1⟩ := hrel
    have HRR := hide rr
    have HK := hide kk
    have HBB := hide bb
    have HEx := hide ex
    have HZ1 := hide hz1
    have hcl := Tm.collTo_len h M i
    have HCL := hide hcl
    have c5 := rr.list
    rw [hcl] at c5
    have hbd := Tm.collNum_bd h M i
    clear rr kk bb hcl HB ex hz1
    by_cases hlt : i < h.l.length
    · have bi : (i : Int) < (h.l.length : Int) := by omega
      obtain ⟨c5', cp, ho⟩ := HRR.out.objJ i (by rw [HCL.out]; exact hlt)
      rw [HCL.out] at c5'
      clear c5
      have elater := Tm.collTo_later h M i i (Nat.le_refl _)
      rw [elater] at ho
      have cg := ho.gone
      have cn := ho.name
      have sob := ho.s
      have tob := ho.t
      have cm := HBB.out.cell (i + 1) (by have := HLen.out; omega)
      have fg : wr.frozen? ⟨Y1.ob i, 4, none⟩ = false := HRR.out.soft _ _ sob
      have HOb : Hid ((S (Y1.ob i) ∧ (tag (Y1.ob i)).1 ≠ 5) ∨ w.heap.size + 1 ≤ Y1.ob i) := HEx.out.not5 sob (by rw [tob]; simp)
      have hneb : Y1.ob i ≠ w.heap.size := fun e => by
        rcases HOb.out with q | q
        · have := HR.out.lt _ q.1; omega
        · omega
      have n1 : a ≠ Y1.ob i := fun e => by have h1 := HRR.out.tagA; rw [e, ho.t] at h1; simp at h1
      have n2 : Y1.bL ≠ Y1.ob i := fun e => by have h1 := (HRR.out.listAt (by have := HRR.out.cap; rw [HCL.out] at this; omega)).2.2; rw [e, ho.t] at h1; simp at h1
      have n3 : ¬ Y1.ob i = a := fun e => n1 e.symm
      have n4 : ¬ Y1.ob i = Y1.bL := fun e => n2 e.symm
      have HStep : Hid (M.getD (i + 1) false = false ∧ (h.l.getD i Tm.ob0).gone = false → h.collTo M (i + 1) = (if 0 ≤ (h.l.getD i Tm.ob0).name then ((h.collTo M i).setGone0 i).tell (h.l.getD i Tm.ob0).name else (h.collTo M i).setGone0 i) ∧ h.collNum M (i + 1) = 1 + h.collNum M i) := fun hc => by
        constructor
        · show H.collTo _ _ _ = _
          rw [H.collTo, if_pos hc]
          unfold H.setGone
          rw [elater]
        · show H.collNum _ _ _ = _
          rw [H.collNum, if_pos hc]
      have HStay : Hid (¬ (M.getD (i + 1) false = false ∧ (h.l.getD i Tm.ob0).gone = false) → h.collTo M (i + 1) = h.collTo M i ∧ h.collNum M (i + 1) = h.collNum M i) := fun hc => by
        constructor
        · show H.collTo _ _ _ = _
          rw [H.collTo, if_neg hc]
        · show H.collNum _ _ _ = _
          rw [H.collNum, if_neg hc]; omega
      have HG := hide (HRR.out.setGone0 i (by rw [HCL.out]; exact hlt))
      clear ho elater
      obtain ⟨o, eo⟩ : ∃ o, h.l.getD i Tm.ob0 = o := ⟨_, rfl⟩
      rw [eo] at cg cn HStep HStay
      clear eo
      cases hmm : M.getD (i + 1) false
      · rw [hmm] at cm HStep HStay
        cases hg : o.gone
        · rw [hg] at cg HStep HStay
          have hs := HStep.out ⟨rfl, rfl⟩
          by_cases hnm0 : 0 ≤ o.name
          · rw [if_pos hnm0] at hs
            have HS := hide hs
            clear hs HStep HStay
            have hnm' : decide (0 ≤ o.name) = true := by simp; omega
            have HTo := hide (Tm.told_len (Tm.collTo_told HN.out M i hi))
            obtain ⟨en, een⟩ : ∃ en, (h.collTo M i).ended.length = en := ⟨_, rfl⟩
            have hen : en ≤ h.l.length := by rw [← een]; exact Nat.le_trans HTo.out (Nat.le_of_eq HCL.out)
            have c11 := HRR.out.ended.head
            rw [een] at c11
            have HEn := hide een
            have alt := HRR.out.lt a HRR.out.tabs.sa
            have fa : ∀ x, wr.frozen? ⟨a, x, none⟩ = false := fun x => HRR.out.soft _ _ HRR.out.tabs.sa
            clear een HTo
            have rW := (HG.out.alloc (.cells #[.int .i64 o.name] 3)).drew
            have HL : Hid (0 < Y1.ce → Y1.pe = some ⟨Y1.be, 0, none⟩ ∧ ∃ cur : Array Value, (((wr.setCell ⟨Y1.ob i, 4, none⟩ (.bool true)).alloc (.cells #[.int .i64 o.name] 3)).drew).heap[Y1.be]? = some (.cells cur 3 (0, 0)) ∧ cur.size = Y1.ce) := fun h0 => ⟨(rW.ended.one h0).1, (rW.ended.one h0).2.2.2⟩
            have HCap : Hid (en ≤ Y1.ce) := by have := HRR.out.ended.cap; rw [HEn.out] at this; exact this
            have HCm : Hid (Y1.ce ≤ maxLen) := HRR.out.ended.capm
            have HCc : Hid (∀ j u, [Value.int .i64 o.name][j]? = some u → (((wr.setCell ⟨Y1.ob i, 4, none⟩ (.bool true)).alloc (.cells #[.int .i64 o.name] 3)).drew).cell? ((⟨wr.heap.size, 0, none⟩ : Addr).add j) = some u) := fun j u hj => by
              match j, hj with
              | 0, hj =>
                simp at hj; subst hj
                rw [Addr.add_lit]
                show ((wr.setCell ⟨Y1.ob i, 4, none⟩ (.bool true)).alloc (.cells #[.int .i64 o.name] 3)).cell? ⟨wr.heap.size, 0 + 0, none⟩ = _
                rw [World.cell?_alloc_at _ _ _ _ (by simp)]; rfl
            have Hb1 : Hid (en + 1 ≤ maxLen) := by show en + 1 ≤ maxLen; unfold maxLen; omega
            have Hb2 : Hid ((en + 1) * 8 ≤ 140737488355328) := by show (en + 1) * 8 ≤ 140737488355328; omega
            have HNext : Hid (∀ w6 be' ce', ApdN 3 (((wr.setCell ⟨Y1.ob i, 4, none⟩ (.bool true)).alloc (.cells #[.int .i64 o.name] 3)).drew) w6 Y1.be Y1.ce be' ce' en [.int .i64 o.name] →
                w6.cell? ⟨a, 11, none⟩ = some (.slice Y1.pe en Y1.ce) ∧ w6.frozen? ⟨a, 11, none⟩ = false ∧ CollMid S tag w a (((h.collTo M i).setGone0 i).tell o.name) M (w6.setCell ⟨a, 11, none⟩ (.slice (some ⟨be', 0, none⟩) (en + 1) ce'))) := fun w6 be' ce' apn => by
              have hec : ((h.collTo M i).setGone0 i).ended.length = en := HEn.out
              have ap' : Apd 3 (((wr.setCell ⟨Y1.ob i, 4, none⟩ (.bool true)).alloc (.cells #[.int .i64 o.name] 3)).drew) w6 Y1.be Y1.ce be' ce' ((h.collTo M i).setGone0 i).ended.length (.int .i64 o.name) := by
                rw [hec]; exact apn.apd
              have r6 := rW.tell o.name ap'
              rw [hec] at r6
              have hS : ∀ b, S b → b < (((wr.setCell ⟨Y1.ob i, 4, none⟩ (.bool true)).alloc (.cells #[.int .i64 o.name] 3)).drew).heap.size := fun b hb => by have := HR.out.lt b hb; have := HZ1.out; simp; omega
              have ex6 := HEx.out.tell rW ap' hS (by have := HZ1.out; simp; omega)
              have ebe : (S1 be' ∧ tag1 be' = (6, 0)) ∨ wr.heap.size + 1 ≤ be' := by
                rcases ap'.bl with ⟨q1, q0⟩ | q1
                · left; rw [q1]; exact ⟨(HRR.out.ended.one q0).2.1, (HRR.out.ended.one q0).2.2.1⟩
                · right; simpa using q1
              have hbz := ap'.size
              simp at hbz
              have old6 : ∀ b, b < wr.heap.size → b ≠ be' → b ≠ Y1.ob i → w6.heap[b]? = wr.heap[b]? := fun b h1 h2 h3 => by
                rw [ap'.old b (by simp; omega) h2]
                show ((wr.setCell ⟨Y1.ob i, 4, none⟩ (.bool true)).alloc (.cells #[.int .i64 o.name] 3)).heap[b]? = _
                rw [Below.heap_alloc _ _ _ (by simp; omega), Below.heap_setCell _ _ _ _ (by simpa using h3)]
              have nbe : a ≠ be' := fun e => by
                rcases ebe with ⟨_, q⟩ | q
                · have h1 := HRR.out.tagA; rw [e, q] at h1; simp at h1
                · omega
              have ha6 := old6 a alt nbe n1
              have hA : (S a ∧ (tag a).1 ≠ 5) ∨ w.heap.size + 1 ≤ a := HEx.out.not5 HRR.out.tabs.sa (by rw [HRR.out.tagA]; simp)
              have hBE : (S be' ∧ (tag be').1 ≠ 5) ∨ w.heap.size + 1 ≤ be' := by
                rcases ebe with ⟨q1, q2⟩ | q
                · exact HEx.out.not5 q1 (by rw [q2]; simp)
                · have := HZ1.out; right; omega
              have hK := HK.out.size
              refine ⟨by rw [cell_of ha6]; exact c11, by rw [frozen_of ha6]; exact fa 11, _, _, _, r6, ?_, ?_, ex6, by rw [World.size_setCell]; have := HZ1.out; omega⟩
              · refine Kept.setCell (p := ⟨a, 11, none⟩) ?_ (by rcases hA with q | q; exact Or.inl q; right; show w.heap.size ≤ a; omega) _
                refine ⟨ap'.os.trans HK.out.os, ap'.tape.trans HK.out.tape, ap'.output.trans HK.out.output, by omega, fun b hb hnb => ?_⟩
                rw [old6 b (by omega) (fun e => by rcases hBE with q | q; exact hnb (e ▸ q); omega) (fun e => by rcases HOb.out with q | q; exact hnb (e ▸ q); omega)]
                exact HK.out.block b hb hnb
              · have hbb : (w6.setCell ⟨a, 11, none⟩ (.slice (some ⟨be', 0, none⟩) (en + 1) ce')).heap[w.heap.size]? = wr.heap[w.heap.size]? := by
                  rw [Below.heap_setCell _ _ _ _ (fun e => by have e' : w.heap.size = a := e; have := HR.out.lt _ HR.out.tabs.sa; omega)]
                  exact old6 _ (by have := HZ1.out; omega) (fun e => by
                    rcases hBE with ⟨q, _⟩ | q
                    · have := HR.out.lt _ q; omega
                    · omega) (fun e => hneb e.symm)
                exact ⟨fun q hq => by rw [cell_of hbb]; exact HBB.out.cell q hq, fun q => by rw [frozen_of hbb]; exact HBB.out.soft q⟩
            clear rW
            go_wp2_with fail
            go_region_law (refine step_putN rfl (.tmp 62) (.tmp 73) 24 rfl 3 iI (.int .i64 0) 8 Tryz.underlying24 HiP.out HP0.out HP1.out HP2.out rfl Y1.pe en Y1.ce Y1.be (by simp [Act.eval]) HL.out HCap.out HCm.out ⟨wr.heap.size, 0, none⟩ 1 1 [.int .i64 o.name] rfl (by decide) (by simp [Act.eval]) HCc.out (by simp [Value.oneCell']) Hb1.out Hb2.out ?_; intro w6 be' ce' ap hsm; obtain ⟨c6, f6, hfin⟩ := HNext.out w6 be' ce' ap; have HFin := hide hfin; clear hfin ap hsm)
            all_goals go_wp2_with fail
            all_goals
              obtain ⟨S2, tag2, Y2, q1, q2, q3, q4, q5⟩ := HFin.out
              exact ⟨⟨i + 1, S2, tag2, Y2, by omega, by go_num, by rw [HS.out.2]; go_num, by rw [HS.out.1]; exact q1, q2, q3, q4, q5⟩, by simp [intOf]; omega⟩
          · rw [if_neg hnm0] at hs
            have HS := hide hs
            clear hs HStep HStay
            have hnm' : decide (0 ≤ o.name) = false := by simp; omega
            go_wp2_with fail
            refine ⟨⟨i + 1, S1, tag1, Y1, by omega, by go_num, by rw [HS.out.2]; go_num, by rw [HS.out.1]; exact HG.out, HK.out.setCell (by rcases HOb.out with q | q; exact Or.inl q; right; show w.heap.size ≤ Y1.ob i; omega) _, ?_, HEx.out, by rw [World.size_setCell]; exact HZ1.out⟩, by simp [intOf]; omega⟩
            refine ⟨fun q hq => ?_, fun q => by rw [World.frozen?_setCell]; exact HBB.out.soft q⟩
            rw [World.cell?_setCell_other _ _ _ _ (fun e => hneb (congrArg Addr.block e))]
            exact HBB.out.cell q hq
        · rw [hg] at cg HStep HStay
          have hs := HStay.out (by simp)
          have HS := hide hs
          clear hs HStep HStay
          go_wp2_with fail
          exact ⟨⟨i + 1, S1, tag1, Y1, by omega, by go_num, by rw [HS.out.2], by rw [HS.out.1]; exact HRR.out, HK.out, HBB.out, HEx.out, HZ1.out⟩, by simp [intOf]; omega⟩
      · rw [hmm] at cm HStep HStay
        have hs := HStay.out (by simp)
        have HS := hide hs
        clear hs HStep HStay
        go_wp2_with fail
        exact ⟨⟨i + 1, S1, tag1, Y1, by omega, by go_num, by rw [HS.out.2], by rw [HS.out.1]; exact HRR.out, HK.out, HBB.out, HEx.out, HZ1.out⟩, by simp [intOf]; omega⟩
    · have bi : ¬ (i : Int) < (h.l.length : Int) := by omega
      have HEI : Hid (i = h.l.length) := by show i = h.l.length; omega
      go_wp2_with fail
      go_ret
      exact ⟨M, S1, tag1, Y1, HMk.out, ret_int (by rw [HEI.out]), by rw [← HEI.out]; exact HRR.out, HK.out, fun b hb => by rcases HEx.out.sub b hb with q | q; exact Or.inl q; exact Or.inr (by omega), HEx.out.five⟩
end Go.Proofs.YtcnmfljpmpgnjaaGreatDoor
