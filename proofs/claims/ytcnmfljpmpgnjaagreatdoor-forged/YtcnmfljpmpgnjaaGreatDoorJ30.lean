import Derived.Test.YtcnmfljpmpgnjaaGreatDoorJ23
import Derived.Test.YtcnmfljpmpgnjaaGreatDoorJ29
import Derived.Deep.DeepCutAuto
namespace Go.Proofs.YtcnmfljpmpgnjaaGreatDoor
open Go.RowKit
open Tm (H Ob Sl Why)

theorem Rep.drewN {S : Nat → Prop} {tag : Nat → Nat × Nat} {w : World} {a : Nat} {Y : Lay} {h : H} (r : Rep S tag w a Y h) (n : Nat) : Rep S tag (w.drewN n) a Y h := r.same (fun _ _ => rfl) (Nat.le_refl _)

set_option maxRecDepth 100000 in
set_option maxHeartbeats 4000000 in
theorem make_table {S : Nat → Prop} {tag : Nat → Nat × Nat} {w : World} {a : Nat} {Y : Lay} {h : H} (r : Rep S tag w a Y h) (x : Nat) (hf : h.free 1 < 0) :
    Calls Tryz.prog 165 #[.pointer (some ⟨a, 0, none⟩), .pointer (some ⟨x, 0, none⟩)] w fun e w' => e = .returned (.tuple #[.int .i64 0, whyV ⟨7, 0⟩]) ∧ Below w.heap.size w w' := by
  have hf' : Tm.freeFrom (h.t 1) 0 < 0 := hf
  have HT := fun o => hide (free_any S (w.alloc o) a (Y.bt 1) 1 (h.t 1) (by omega) ((r.alloc o).tabs.tab 1 (by omega) (by omega)))
  clear r
  go_enter Tryz.func165, Tryz.ntmps165
  go_wp2_with fail
  refine ((HT _).out).mono ?_
  rintro e w' ⟨rfl, rfl⟩
  go_wp2_with fail
  exact bodyPost_ret (v := .tuple #[.int .i64 0, .agg #[.int .i64 7, .int .i64 0]]) (by simp [results, Tryz.results165, go_sem]) rfl ⟨rfl, Below.alloc0 _ _⟩

/-- The world just before the append. -/
def preApd (wc : World) (x kn nq : Nat) : World :=
  ((((wc.alloc (.cells (madeCells #[.int .i64 0] kn) 3)).drewN nq).setCell ⟨x, 1, none⟩ (.slice (some ⟨wc.heap.size, 0, none⟩) kn kn)).alloc (.cells #[.pointer (some ⟨x, 0, none⟩)] 206))

theorem preApd_size (wc : World) (x kn nq : Nat) : (preApd wc x kn nq).heap.size = wc.heap.size + 2 := by simp [preApd]
theorem preApd_old (wc : World) (x kn nq b : Nat) (hb : b < wc.heap.size) (hx : b ≠ x) : (preApd wc x kn nq).heap[b]? = wc.heap[b]? := by
  unfold preApd
  rw [Below.heap_alloc _ _ _ (by simp; omega), Below.heap_setCell _ _ _ _ (by simpa using hx)]
  exact Below.heap_alloc _ _ _ hb
theorem preApd_x (wc : World) (x kn nq : Nat) (hx : x < wc.heap.size) : (preApd wc x kn nq).heap[x]? = (wc.setCell ⟨x, 1, none⟩ (.slice (some ⟨wc.heap.size, 0, none⟩) kn kn)).heap[x]? := by
  unfold preApd
  rw [Below.heap_alloc _ _ _ (by simp; omega)]
  have h1 : ((wc.alloc (.cells (madeCells #[.int .i64 0] kn) 3)).drewN nq).heap[x]? = wc.heap[x]? := Below.heap_alloc _ _ _ hx
  simp only [World.setCell, Array.getElem?_modify]
  rw [h1]
theorem preApd_v (wc : World) (x kn nq : Nat) (hx : x < wc.heap.size) : (preApd wc x kn nq).heap[wc.heap.size]? = some (.cells (madeCells #[.int .i64 0] kn) 3 (0, 0)) := by
  unfold preApd
  rw [Below.heap_alloc _ _ _ (by simp), Below.heap_setCell _ _ _ _ (by simp; omega)]
  show (wc.heap.push _)[wc.heap.size]? = _
  simp

theorem put_of_apd {S : Nat → Prop} {tag : Nat → Nat × Nat} {wc w2 : World} {a : Nat} {Y : Lay} {g : H} (r : Rep S tag wc a Y g) {x kb : Nat} {kp : Option Addr} {kc : Nat} {ks : List Int} {name : Int} (n : NewAt S tag wc x kb kp kc ks name)
    {nq bL' cL' : Nat} (ap : Apd 206 (preApd wc x ks.length nq) w2 Y.bL Y.cL bL' cL' g.l.length (.pointer (some ⟨x, 0, none⟩))) :
    Put wc (w2.setCell ⟨a, 5, none⟩ (.slice (some ⟨bL', 0, none⟩) (g.l.length + 1) cL')) a x wc.heap.size bL' cL' Y g.l.length ks.length := by
  have sz := preApd_size wc x ks.length nq
  have sa := r.tabs.sa
  have la := r.lt a sa
  have lx := n.lt
  have nax : a ≠ x := fun e => n.fresh (e ▸ sa)
  have hbl : bL' = Y.bL ∧ 0 < Y.cL ∨ wc.heap.size + 2 ≤ bL' := by have := ap.bl; omega
  have lL : 0 < Y.cL → Y.bL < wc.heap.size ∧ Y.bL ≠ a ∧ Y.bL ≠ x := fun h0 => by
    obtain ⟨_, q1, q2⟩ := r.listAt h0
    exact ⟨r.lt _ q1, fun e => by rw [e, r.tagA] at q2; simp at q2, fun e => n.fresh (e ▸ q1)⟩
  have nal : a ≠ bL' := fun e => by rcases hbl with ⟨q, q0⟩ | q; exact (lL q0).2.1 (by rw [← q, e]); omega
  have nxl : x ≠ bL' := fun e => by rcases hbl with ⟨q, q0⟩ | q; exact (lL q0).2.2 (by rw [← q, e]); omega
  have nvl : wc.heap.size ≠ bL' := fun e => by rcases hbl with ⟨q, q0⟩ | q; have := (lL q0).1; omega; omega
  have hw2 : ∀ b, b < wc.heap.size → b ≠ x → b ≠ bL' → w2.heap[b]? = wc.heap[b]? := fun b h1 h2 h3 => by rw [ap.old b (by omega) h3, preApd_old _ _ _ _ _ h1 h2]
  have hx2 : w2.heap[x]? = (wc.setCell ⟨x, 1, none⟩ (.slice (some ⟨wc.heap.size, 0, none⟩) ks.length ks.length)).heap[x]? := by rw [ap.old x (by omega) nxl, preApd_x _ _ _ _ lx]
  have hv2 : w2.heap[wc.heap.size]? = some (.cells (madeCells #[.int .i64 0] ks.length) 3 (0, 0)) := by rw [ap.old _ (by omega) nvl, preApd_v _ _ _ _ lx]
  have ha2 := hw2 a la nax nal
  have oth : ∀ b, b ≠ a → (w2.setCell ⟨a, 5, none⟩ (.slice (some ⟨bL', 0, none⟩) (g.l.length + 1) cL')).heap[b]? = w2.heap[b]? := fun b hb => Below.heap_setCell _ _ _ _ (by simpa using hb)
  have hz := ap.size
  refine ⟨by rw [World.size_setCell]; omega, Nat.le_refl _, by rw [World.size_setCell]; omega, fun b h1 h2 h3 h4 => by rw [oth b h2]; exact hw2 b h1 h3 h4, ?_, fun i hi => ?_, ?_, fun i hi => ?_, fun i hi => ?_, ?_, by rw [World.size_setCell]; exact ap.lt, ap.cap, ap.capm, ?_, fun i hi => ?_, ?_, fun b i hb hf => ?_, fun i => ?_⟩
  · exact World.cell?_setCell_same _ _ _ (by rw [cell_of ha2]; exact r.list)
  · rw [World.cell?_setCell_other _ _ _ _ (fun e => hi (congrArg Addr.off e).symm), cell_of ha2]
  · rw [cell_of (oth x (fun e => nax e.symm)), cell_of hx2]
    exact World.cell?_setCell_same _ _ _ n.c1
  · rw [cell_of (oth x (fun e => nax e.symm)), cell_of hx2, World.cell?_setCell_other _ _ _ _ (fun e => hi (congrArg Addr.off e).symm)]
  · rw [cell_of (oth _ (by omega))]
    simp only [World.cell?, hv2]
    simp [madeCells, hi, Nat.mod_one]
  · rcases hbl with q | q
    · exact Or.inl q
    · exact Or.inr ⟨by omega, by omega⟩
  · rw [oth bL' (fun e => nal e.symm)]; exact ap.block
  · rw [cell_of (oth bL' (fun e => nal e.symm)), ap.keep i hi]
    have h0 : 0 < Y.cL := by have := r.cap; omega
    rw [cell_of (preApd_old _ _ _ _ _ (lL h0).1 (lL h0).2.2)]
  · rw [cell_of (oth bL' (fun e => nal e.symm))]; exact ap.last
  · rw [World.frozen?_setCell]
    by_cases e1 : b = bL'
    · subst e1
      obtain ⟨cur, q, _⟩ := ap.block
      simp [World.frozen?, q]
    · by_cases e2 : b = x
      · subst e2
        rw [frozen_of hx2, World.frozen?_setCell]; exact hf
      · rw [frozen_of (hw2 b hb e2 e1)]; exact hf
  · rw [World.frozen?_setCell]
    simp [World.frozen?, hv2]

/-- What is so behind the asking for room. -/
def Roomed (S : Nat → Prop) (w : World) (a : Nat) (h : H) (x kb : Nat) (kp : Option Addr) (kc : Nat) (ks : List Int) (name : Int) (w' : World) : Prop :=
  ∃ M S1 tag1 Y1, (h.room < Tm.roomOf h.l + (1 + (ks.length : Int)) → Tm.Marked h M) ∧ Rep S1 tag1 w' a Y1 (h.roomy M ks) ∧ Kept S w w' ∧ NewAt S1 tag1 w' x kb kp kc ks name ∧ w.heap.size < w'.heap.size ∧
    w'.cell? ⟨w.heap.size, 0, none⟩ = some (.int .i64 0) ∧ w'.cell? ⟨w.heap.size, 1, none⟩ = some (.int .i64 0) ∧ (∀ i, w'.frozen? ⟨w.heap.size, i, none⟩ = false) ∧ (∀ b, S1 b → S b ∨ w.heap.size < b)

theorem NewAt.ext {S S1 : Nat → Prop} {tag tag1 : Nat → Nat × Nat} {w : World} {x kb : Nat} {kp : Option Addr} {kc : Nat} {ks : List Int} {name : Int} (n : NewAt S tag w x kb kp kc ks name) (B : Nat) (hx : x < B) (hkb : 0 < ks.length → kb < B)
    (hs : ∀ b, S1 b → S b ∨ B ≤ b) (h5 : ∀ b, S b → (tag b).1 = 5 → (tag1 b).1 = 5) : NewAt S1 tag1 w x kb kp kc ks name :=
  ⟨fun q => by rcases hs x q with h | h; exact n.fresh h; omega, n.lt, n.soft, n.c0, n.c1, n.c2, n.c3, n.c4, n.len, fun h0 => ⟨(n.kinds h0).1, (n.kinds h0).2.1, (n.kinds h0).2.2.1, (n.kinds h0).2.2.2.1, fun q => by
    rcases hs kb q with h | h
    · exact h5 _ h ((n.kinds h0).2.2.2.2 h)
    · have := hkb h0; omega⟩, n.ints⟩

theorem infoP : (Tryz.prog.info? 206).map (fun i => (i.zero, i.size, i.bytes)) = some (some (.pointer none), 1, 8) := by kernel_rfl

theorem roomOf_all (l : List Ob) (hk : ∀ i, i < l.length → (l.getD i Tm.ob0).kinds.length ≤ 32) : 0 ≤ Tm.roomOf l ∧ Tm.roomOf l ≤ 33 * (l.length : Int) := by
  have := roomOf_bd l hk l.length (Nat.le_refl _)
  rw [List.take_of_length_le (Nat.le_refl _)] at this
  exact this

set_option maxRecDepth 100000 in
set_option maxHeartbeats 4000000 in
theorem make_any {S : Nat → Prop} {tag : Nat → Nat × Nat} {w : World} {a : Nat} {Y : Lay} {h : H} (r : Rep S tag w a Y h) (x kb : Nat) (kp : Option Addr) (kc : Nat) (ks : List Int) (name : Int) (n : NewAt S tag w x kb kp kc ks name)
    (hf : ¬ h.free 1 < 0) (hn : h.toldOK) (hmany : h.l.length + 1 < 4398046511104) :
    Calls Tryz.prog 165 #[.pointer (some ⟨a, 0, none⟩), .pointer (some ⟨x, 0, none⟩)] w fun e w' => ∃ M, (h.room < Tm.roomOf h.l + (1 + (ks.length : Int)) → Tm.Marked h M) ∧ e = .returned (.tuple #[.int .i64 (h.makeBy M ks name).1.1, whyV (h.makeBy M ks name).1.2]) ∧
      ∃ S' tag' Y', Rep S' tag' w' a Y' (h.makeBy M ks name).2 ∧ Kept (fun b => S b ∨ b = x) w w' ∧ (∀ b, S' b → S b ∨ b = x ∨ (b = kb ∧ 0 < ks.length) ∨ w.heap.size ≤ b) := by
  have hf' : ¬ Tm.freeFrom (h.t 1) 0 < 0 := hf
  have HT := fun o => hide (free_any S (w.alloc o) a (Y.bt 1) 1 (h.t 1) (by omega) ((r.alloc o).tabs.tab 1 (by omega) (by omega)))
  have HN1 := fun o => hide (n.of_eq (w' := w.alloc o) (Below.heap_alloc _ _ _ n.lt) (fun h0 => Below.heap_alloc _ _ _ (n.kinds h0).2.1) (by simp))
  have HR1 := fun o => hide (r.alloc o)
  have HR := hide r
  have c0 := fun o => (HN1 o).out.c0
  have hlen := n.len
  have hrm := r.room
  have hsm := r.small
  have crm := fun o => (HR1 o).out.room
  have hro := roomOf_all h.l (fun i hi => (r.obj i hi).len)
  have hm := r.many
  have HNm := hide hn
  have HF0 := hide hf
  have HN0 := hide n.lt
  have HK0 : Hid (0 < ks.length → kb < w.heap.size) := fun h0 => (n.kinds h0).2.1
  clear r n hf hn
  go_enter Tryz.func165, Tryz.ntmps165
  go_wp2_with fail
  refine ((HT _).out).mono ?_
  rintro e w' ⟨rfl, rfl⟩
  generalize Tm.freeFrom (h.t 1) 0 = fr at *
  go_wp2_with fail
  go_quiet ((go_at_call 136; exact Calls.quiet_of_same (room_any ((HR1 _).out.drewN _))))
  go_upto_if 28 with fail
  go_cut [28] (fun c wx => Roomed S w a h x kb kp kc ks name wx)
  case first =>
    have HA : Hid (∀ o n, Kept S w ((w.alloc o).drewN n)) := fun o n => Kept.of_below ⟨rfl, rfl, rfl, by simp, fun k hk => Below.heap_alloc _ _ _ hk⟩
    by_cases hc : h.room < Tm.roomOf h.l + (1 + (ks.length : Int))
    · have HCo := hide (collect_any ((HR1 (.cells #[.int .i64 0, .int .i64 0] 161)).out.drewN nq) HNm.out)
      go_wp2_with fail
      refine HCo.out.mono ?_
      rintro e w2 ⟨M, S1, tag1, Y1, hM, rfl, rr, kk, hs1, h51⟩
      have HS1 := hide hs1
      have H51 := hide h51
      have HRR := hide rr
      have HKK := hide kk
      have HMM := hide hM
      clear rr kk hM hs1 h51
      go_wp2_with fail
      go_meet
      case rel =>
        have hz := HKK.out.size
        simp at hz
        have hy : h.roomy M ks = h.collTo M h.l.length := by unfold H.roomy; rw [if_pos hc]
        have hw : ∀ b, b < w.heap.size + 1 → (S b → (tag b).1 = 5) → w2.heap[b]? = (w.alloc (.cells #[.int .i64 0, .int .i64 0] 161)).heap[b]? := fun b hb hs => by
          rw [HKK.out.block b (by simpa using hb) (fun e => e.2 (hs e.1))]; rfl
        have hs0 : ¬ S w.heap.size := fun e => by have := HR.out.lt _ e; omega
        have hb0 := hw w.heap.size (by omega) (fun e => absurd e hs0)
        have nn := (HN1 (.cells #[.int .i64 0, .int .i64 0] 161)).out
        refine ⟨M, S1, tag1, Y1, fun _ => HMM.out, by rw [hy]; exact HRR.out, (HA.out _ _).trans (HKK.out.mono fun b hb => hb.1), (nn.of_eq (hw x (by have := nn.lt; simpa using this) (fun e => absurd e nn.fresh)) (fun h0 => hw kb (by have := (nn.kinds h0).2.1; simpa using this) (nn.kinds h0).2.2.2.2) (by simp; omega)).ext (w.heap.size + 1) (by have := HN0.out; omega) (fun h0 => by have := HK0.out h0; omega) (fun b hb => by rcases HS1.out b hb with q | q; exact Or.inl q; simp at q; exact Or.inr q) H51.out, by omega, by rw [cell_of hb0]; simp, by rw [cell_of hb0]; simp, fun i => by rw [frozen_of hb0]; simp, fun b hb => by rcases HS1.out b hb with q | q; exact Or.inl q; simp at q; exact Or.inr (by omega)⟩
    · go_wp2_with fail
      go_meet
      case rel =>
        have nn := (HN1 (.cells #[.int .i64 0, .int .i64 0] 161)).out
        refine ⟨[], S, tag, Y, fun e => by omega, by unfold H.roomy; rw [if_neg (by omega)]; exact (HR1 _).out.drewN _, HA.out _ _, nn.of_eq rfl (fun _ => rfl) (Nat.le_refl _), by simp, by simp, by simp, by simp, fun b hb => Or.inl hb⟩
  case rest =>
    obtain ⟨M, S1, tag1, Y1, hM, rr, kk, nn, hz, cz0, cz1, fz, hs1⟩ := hcut
    have HS1 := hide hs1
    clear hs1
    have hsame := Tm.roomy_same h M ks
    have HSm := hide hsame
    have hr2 := rr.room
    rw [hsame.2.1] at hr2
    have hro2 := roomOf_all (h.roomy M ks).l (fun i hi => (rr.obj i hi).len)
    rw [hsame.2.2] at hro2
    have HMk := hide hM
    have HRR := hide rr
    have HK := hide kk
    have HNN := hide nn
    have c02 := nn.c0
    have c12 := nn.c1
    have HM1 : Hid ((h.roomy M ks).room < Tm.roomOf (h.roomy M ks).l + (1 + (ks.length : Int)) → h.makeBy M ks name = ((0, ⟨8, 0⟩), h.roomy M ks)) := fun hc => by
      unfold H.makeBy; rw [if_neg (by have := HF0.out; omega), if_pos hc]
    have HM2 : Hid (¬ (h.roomy M ks).room < Tm.roomOf (h.roomy M ks).l + (1 + (ks.length : Int)) → h.makeBy M ks name = (((((h.roomy M ks).grown ks name).take 1 ((h.l.length : Int) + 1)).1, Tm.fine), (((h.roomy M ks).grown ks name).take 1 ((h.l.length : Int) + 1)).2)) := fun hc => by
      unfold H.makeBy; rw [if_neg (by have := HF0.out; omega), if_neg hc]
    clear hM rr kk nn
    rw [hsame.2.1] at HM1 HM2
    clear hsame
    go_wp2_with fail
    go_quiet ((go_at_call 136; exact Calls.quiet_of_same (room_any (HRR.out.drewN _))))
    by_cases hc : h.room < Tm.roomOf (h.roomy M ks).l + (1 + (ks.length : Int))
    · go_wp2_with fail
      refine bodyPost_ret (v := .tuple #[.int .i64 0, .agg #[.int .i64 8, .int .i64 0]]) (by simp [results, Tryz.results165, go_sem, cz0, cz1]) rfl ⟨M, HMk.out, by rw [HM1.out hc]; rfl, S1, tag1, Y1, ?_, ?_, fun b hb => by rcases HS1.out b hb with q | q; exact Or.inl q; exact Or.inr (Or.inr (Or.inr (by omega)))⟩
      · rw [HM1.out hc]
        have HNS : ¬ S1 w.heap.size := fun e => by rcases HS1.out _ e with q | q; (have := HR.out.lt _ q; omega); omega
        repeat (first | exact HRR.out | refine Rep.other ?_ HNS _ | refine Rep.drewN ?_ _ | refine Rep.drew ?_)
      · have HK' : Kept (fun b => S b ∨ b = x) w wc := HK.out.mono fun b hb => Or.inl hb
        repeat (first | exact HK' | refine Kept.setCell ?_ (Or.inr (by simp)) _ | refine Kept.drewN ?_ _ | refine Kept.drew ?_)
    · have hmk : ∀ n, (Instr.makeSlice 24 (.int .i64 (ks.length : Int)) (.int .i64 (ks.length : Int))).run Tryz.prog (wc.drewN n) = .ok (.slice (some ⟨wc.heap.size, 0, none⟩) ks.length ks.length) ((wc.alloc (.cells (madeCells #[.int .i64 0] ks.length) 3)).drewN n) := fun n => make_ints (wc.drewN n) ks.length (by omega)
      have alt := HRR.out.lt a HRR.out.tabs.sa
      have nax : ¬ a = x := fun e => HNN.out.fresh (e ▸ HRR.out.tabs.sa)
      have nxa : ¬ x = a := fun e => nax e.symm
      have xlt := HNN.out.lt
      have fx := HNN.out.soft
      have cl := HRR.out.list
      rw [HSm.out.2.2] at cl
      obtain ⟨iP, hiP, hp0, hp1, hp2⟩ := info_parts infoP
      have HiP := hide hiP
      have HP0 := hide hp0
      have HP1 := hide hp1
      have HP2 := hide hp2
      clear hiP hp0 hp1 hp2
      go_wp2_with (at_builtin; refine wpList_put _ rfl (.tmp 55) (.tmp 57) 196 rfl 206 iP (.pointer none) 8 Tryz.underlying196 HiP.out HP0.out HP1.out HP2.out rfl Y1.pL h.l.length Y1.cL Y1.bL rfl ?L ?L0 ?cap ?cm ⟨_, 0, none⟩ 1 (.pointer (some ⟨x, 0, none⟩)) rfl ?cc rfl ?b1 ?b2 ?K)
      case L => exact fun h0 => ⟨(HRR.out.listAt h0).1, by
        show ∃ cur : Array Value, (preApd wc x ks.length nq).heap[Y1.bL]? = _ ∧ _
        have sL : S1 Y1.bL := (HRR.out.listAt h0).2.1
        rw [preApd_old _ _ _ _ _ (HRR.out.lt _ sL) (fun e => HNN.out.fresh (by rw [← e]; exact sL))]; exact HRR.out.block h0⟩
      case L0 => exact HRR.out.empty
      case cap => have := HRR.out.cap; rw [HSm.out.2.2] at this; exact this
      case cm => exact HRR.out.capm
      case b1 => unfold maxLen; omega
      case b2 => omega
      case K =>
        intro w2 bL' cL' ap
        have ap' : Apd 206 (preApd wc x ks.length nq) w2 Y1.bL Y1.cL bL' cL' (h.roomy M ks).l.length (.pointer (some ⟨x, 0, none⟩)) := by rw [HSm.out.2.2]; exact ap
        have pp := put_of_apd HRR.out HNN.out ap'
        have rg := HRR.out.grow HNN.out pp (by rw [HSm.out.2.2]; exact hmany)
        rw [HSm.out.2.2] at pp rg
        have lbl : w.heap.size ≠ bL' := fun e => by
          have := ap.bl
          have hz2 := preApd_size wc x ks.length nq
          have hz3 : (preApd wc x ks.length nq).heap.size ≤ bL' ∨ bL' = Y1.bL ∧ 0 < Y1.cL := by rcases this with q | q; exact Or.inr q; exact Or.inl q
          rcases hz3 with q | ⟨q, q0⟩
          · omega
          · rcases HS1.out _ (HRR.out.listAt q0).2.1 with q2 | q2; (have := HR.out.lt _ q2; omega); omega
        have ha2 : w2.heap[a]? = wc.heap[a]? := by
          rw [ap.old a (by have := preApd_size wc x ks.length nq; show a < (preApd wc x ks.length nq).heap.size; omega) (fun e => by
            rcases ap.bl with ⟨q, q0⟩ | q
            · have h1 := (HRR.out.listAt q0).2.2; rw [← q, ← e, HRR.out.tagA] at h1; simp at h1
            · have hz2 := preApd_size wc x ks.length nq; have q' : (preApd wc x ks.length nq).heap.size ≤ bL' := q; omega)]
          exact preApd_old _ _ _ _ _ alt nax
        have hb2 : w2.heap[w.heap.size]? = wc.heap[w.heap.size]? := by
          rw [ap.old _ (by have := preApd_size wc x ks.length nq; show _ < (preApd wc x ks.length nq).heap.size; omega) lbl]
          exact preApd_old _ _ _ _ _ hz (fun e => by have := HN0.out; omega)
        have hfree : 0 ≤ ((h.roomy M ks).grown ks name).free 1 := by
          have : ((h.roomy M ks).grown ks name).free 1 = h.free 1 := by unfold H.free; rw [show ((h.roomy M ks).grown ks name).t = (h.roomy M ks).t from rfl, HSm.out.1]
          rw [this]; have := HF0.out; omega
        have hgl : ((h.roomy M ks).grown ks name).l.length = h.l.length + 1 := by simp [H.grown, HSm.out.2.2]
        have htk := take_any rg 1 ((h.l.length : Int) + 1) (by omega) (by omega) hfree (by omega) (by rw [hgl]; omega)
        have HTk : Hid (Calls Tryz.prog 168 #[.pointer (some ⟨a, 0, none⟩), .int .i64 1, .int .i64 ((h.l.length : Int) + 1)] (w2.setCell ⟨a, 5, none⟩ (.slice (some ⟨bL', 0, none⟩) (h.l.length + 1) cL')) fun e w' => e = .returned (.int .i64 (((h.roomy M ks).grown ks name).take 1 ((h.l.length : Int) + 1)).1) ∧ Rep (growS S1 x wc.heap.size bL' kb ks.length) (growT tag1 Y1 h.l.length x wc.heap.size bL' kb ks.length) w' a (growY Y1 h.l.length x wc.heap.size bL' cL' kb) (((h.roomy M ks).grown ks name).take 1 ((h.l.length : Int) + 1)).2 ∧ Kept (fun b => growS S1 x wc.heap.size bL' kb ks.length b ∧ (growT tag1 Y1 h.l.length x wc.heap.size bL' kb ks.length b).1 = 1) (w2.setCell ⟨a, 5, none⟩ (.slice (some ⟨bL', 0, none⟩) (h.l.length + 1) cL')) w') := htk
        have HK5 : Hid (0 < ks.length → (growT tag1 Y1 h.l.length x wc.heap.size bL' kb ks.length kb).1 = 5) := fun h0 => by
          have hlast : ((h.roomy M ks).grown ks name).l.getD h.l.length Tm.ob0 = ⟨ks, List.replicate ks.length 0, 0, name, false⟩ := by simp [H.grown, List.getD_eq_getElem?_getD, ← HSm.out.2.2]
          have o := rg.obj h.l.length (by rw [hgl]; omega)
          rw [hlast] at o
          have := o.kt h0
          simpa [growY] using this
        have ca5 : w2.cell? ⟨a, 5, none⟩ = some (.slice Y1.pL h.l.length Y1.cL) := by rw [cell_of ha2]; exact cl
        have fa5 : w2.frozen? ⟨a, 5, none⟩ = false := by rw [frozen_of ha2]; exact HRR.out.soft _ _ HRR.out.tabs.sa
        have HE := hide (HM2.out hc)
        have HPP := hide pp
        have HAP := hide ap
        have HHB2 := hide hb2
        have HLB := hide lbl
        have HNot : Hid (¬ growS S1 x wc.heap.size bL' kb ks.length w.heap.size) := by
          rintro (q | q | q | q | ⟨q, q0⟩)
          · rcases HS1.out _ q with q2 | q2; (have := HR.out.lt _ q2; omega); omega
          · have := HN0.out; omega
          · omega
          · exact lbl q
          · have := HK0.out q0; omega
        have nNa : ¬ w.heap.size = a := fun e => by have := HR.out.lt _ HR.out.tabs.sa; omega
        clear htk hfree hgl pp rg ap ap' ha2 hb2 lbl hmk
        go_wp2_with fail
        refine HTk.out.mono ?_
        rintro e w4 ⟨rfl, r4, kk4⟩
        have hN4 : w4.heap[w.heap.size]? = wc.heap[w.heap.size]? := by
          rw [kk4.block _ (by rw [World.size_setCell]; have := HPP.out.size; rw [World.size_setCell] at this; omega) (fun e => HNot.out e.1), Below.heap_setCell _ _ _ _ (by simpa using nNa)]
          exact HHB2.out
        have d0 : w4.cell? ⟨w.heap.size, 0, none⟩ = some (.int .i64 0) := by rw [cell_of hN4]; exact cz0
        have d1 : w4.cell? ⟨w.heap.size, 1, none⟩ = some (.int .i64 0) := by rw [cell_of hN4]; exact cz1
        have df : ∀ i, w4.frozen? ⟨w.heap.size, i, none⟩ = false := fun i => by rw [frozen_of hN4]; exact fz i
        have HR4 := hide r4
        have HK4 := hide kk4
        clear r4 kk4 hN4 HTk
        go_wp2_with fail
        refine bodyPost_ret (v := .tuple #[.int .i64 (((h.roomy M ks).grown ks name).take 1 ((h.l.length : Int) + 1)).1, .agg #[.int .i64 0, .int .i64 0]]) (by simp [results, Tryz.results165, go_sem, d0, d1]) rfl ⟨M, HMk.out, by rw [HE.out]; rfl, growS S1 x wc.heap.size bL' kb ks.length, growT tag1 Y1 h.l.length x wc.heap.size bL' kb ks.length, growY Y1 h.l.length x wc.heap.size bL' cL' kb, ?_, ?_, fun b hb => ?_⟩
        · rw [HE.out]
          repeat (first | exact HR4.out | refine Rep.other ?_ HNot.out _ | refine Rep.drewN ?_ _ | refine Rep.drew ?_)
        · have HK' : Kept (fun b => S b ∨ b = x) w w4 := by
            have hSS : ∀ b, b < w.heap.size → S1 b → S b := fun b hb q => by rcases HS1.out b q with q2 | q2; exact q2; omega
            have k1 : Kept (fun b => S b ∨ b = x) w wc := HK.out.mono fun b hb => Or.inl hb
            have k2 : Kept (fun b => S1 b ∨ b = x ∨ wc.heap.size ≤ b) wc (w2.setCell ⟨a, 5, none⟩ (.slice (some ⟨bL', 0, none⟩) (h.l.length + 1) cL')) := by
              refine ⟨HAP.out.os, HAP.out.tape, HAP.out.output, HPP.out.size, fun b hb hn => HPP.out.old b hb (fun e => hn (Or.inl (e ▸ HRR.out.tabs.sa))) (fun e => hn (Or.inr (Or.inl e))) (fun e => ?_)⟩
              rcases HPP.out.bl with ⟨q, q0⟩ | ⟨q, _⟩
              · exact hn (Or.inl (by rw [e, q]; exact (HRR.out.listAt q0).2.1))
              · omega
            refine ⟨HK4.out.os.trans (k2.os.trans k1.os), HK4.out.tape.trans (k2.tape.trans k1.tape), HK4.out.output.trans (k2.output.trans k1.output), Nat.le_trans k1.size (Nat.le_trans k2.size HK4.out.size), fun b hb hn => ?_⟩
            have hb1 : b < wc.heap.size := by have := k1.size; omega
            have hb2 := Nat.lt_of_lt_of_le hb1 k2.size
            · rw [HK4.out.block b hb2 (by
                rintro ⟨q | q | q | q | q, q5⟩
                · exact hn (Or.inl (hSS b hb q))
                · exact hn (Or.inr q)
                · omega
                · rcases HPP.out.bl with ⟨q1, q0⟩ | ⟨q1, _⟩
                  · exact hn (Or.inl (hSS b hb (by rw [q, q1]; exact (HRR.out.listAt q0).2.1)))
                  · omega
                · have := HK5.out q.2; rw [q.1, this] at q5; cases q5), k2.block b hb1 (by
                rintro (q | q | q)
                · exact hn (Or.inl (hSS b hb q))
                · exact hn (Or.inr q)
                · omega)]
              exact k1.block b hb hn
          repeat (first | exact HK' | refine Kept.setCell ?_ (Or.inr (by simp)) _ | refine Kept.drewN ?_ _ | refine Kept.drew ?_)
        · have hSS : ∀ b, S1 b → S b ∨ b = x ∨ (b = kb ∧ 0 < ks.length) ∨ w.heap.size ≤ b := fun b q => by rcases HS1.out b q with q2 | q2; exact Or.inl q2; exact Or.inr (Or.inr (Or.inr (by omega)))
          rcases hb with q | q | q | q | q
          · exact hSS _ q
          · exact Or.inr (Or.inl q)
          · exact Or.inr (Or.inr (Or.inr (by omega)))
          · rcases HPP.out.bl with ⟨q1, q0⟩ | ⟨q1, _⟩
            · exact hSS _ (by rw [q, q1]; exact (HRR.out.listAt q0).2.1)
            · exact Or.inr (Or.inr (Or.inr (by omega)))
          · exact Or.inr (Or.inr (Or.inl q))
end Go.Proofs.YtcnmfljpmpgnjaaGreatDoor
