import Derived.Test.YtcnmfljpmpgnjaaGreatDoorK31
import Derived.Deep.RegionHeld3
import Derived.Great.BuildSlice
namespace Go.Proofs.YtcnmfljpmpgnjaaGreatDoor
open Go.RowKit
open Tm (H Ob Sl Why)

/-- The list of heaps of the law's. -/
structure Prs (w : World) (wb n cL bL : Nat) (pL : Option Addr) : Prop where
  head : w.cell? ⟨wb, 0, none⟩ = some (.slice pL n cL)
  soft : w.frozen? ⟨wb, 0, none⟩ = false
  lt : wb < w.heap.size
  list : 0 < cL → pL = some ⟨bL, 0, none⟩ ∧ ∃ cur : Array Value, w.heap[bL]? = some (.cells cur 116 (0, 0)) ∧ cur.size = cL * 2
  ne : 0 < cL → bL ≠ wb
  nil : cL = 0 → pL = none
  cap : n ≤ cL
  capm : cL ≤ maxLen

theorem Prs.below {w w' : World} {wb n cL bL : Nat} {pL : Option Addr} (h : Prs w wb n cL bL pL) (hb : Below w.heap.size w w') : Prs w' wb n cL bL pL :=
  ⟨by rw [hb.cell h.lt]; exact h.head, by rw [hb.frozen h.lt]; exact h.soft, by have := hb.size; have := h.lt; omega, fun h0 => ⟨(h.list h0).1, by
    obtain ⟨cur, q1, q2⟩ := (h.list h0).2
    exact ⟨cur, by rw [hb.block bL (by rw [Array.getElem?_eq_some_iff] at q1; exact q1.1)]; exact q1, q2⟩⟩, h.ne, h.nil, h.cap, h.capm⟩

theorem Prs.blt {w : World} {wb n cL bL : Nat} {pL : Option Addr} (h : Prs w wb n cL bL pL) (h0 : 0 < cL) : bL < w.heap.size := by
  obtain ⟨cur, q1, _⟩ := (h.list h0).2
  rw [Array.getElem?_eq_some_iff] at q1; exact q1.1

theorem infoPair : (Tryz.prog.info? 116).map (fun i => (i.zero, i.size, i.bytes)) = some (some (.agg #[.pointer none, .pointer none]), 2, 16) := by kernel_rfl

/-- A heap more, of both. -/
structure Begun (R : (Nat → Prop) → World → Nat → H → Prop) (w w' : World) (wb n cL bL : Nat) (h : H) (pa ra : Nat) (S S' : Nat → Prop) (tag : Nat → Nat × Nat) (Y : Lay) (bL' cL' : Nat) : Prop where
  p : R S w' pa h
  r : Rep S' tag w' ra Y h
  pn : ∀ x, S x → w.heap.size ≤ x
  rn : ∀ x, S' x → w.heap.size ≤ x
  dj : ∀ x, S x → ¬ S' x
  prs : Prs w' wb (n + 1) cL' bL' (some ⟨bL', 0, none⟩)
  bl : (bL' = bL ∧ 0 < cL) ∨ w.heap.size ≤ bL'
  out : ¬ S bL' ∧ ¬ S' bL'
  keep : ∀ i, i < n * 2 → w'.cell? ⟨bL', i, none⟩ = w.cell? ⟨bL, i, none⟩
  last0 : w'.cell? ⟨bL', n * 2, none⟩ = some (.pointer (some ⟨pa, 0, none⟩))
  last1 : w'.cell? ⟨bL', n * 2 + 1, none⟩ = some (.pointer (some ⟨ra, 0, none⟩))
  rest : ∀ i, i ≠ 0 → w'.cell? ⟨wb, i, none⟩ = w.cell? ⟨wb, i, none⟩
  kept : Kept (fun x => x = wb ∨ x = bL') w w'
  restf : ∀ i, w'.frozen? ⟨wb, i, none⟩ = w.frozen? ⟨wb, i, none⟩

set_option maxRecDepth 100000 in
set_option maxHeartbeats 4000000 in
theorem begun_yes (R : (Nat → Prop) → World → Nat → H → Prop) (hR : ∀ S w w' p h, R S w p h → Same S w w' → w.heap.size ≤ w'.heap.size → R S w' p h) (hRl : ∀ S w p h, R S w p h → ∀ x, S x → x < w.heap.size) (w : World) (wb n cL bL : Nat) (pL : Option Addr) (hP : Prs w wb n cL bL pL) (hn : n < 4398046511104) (B b o c : Nat) (kd xA xB xD xE r l g k : Int) (rp : Nat → Option Addr) (rc : Nat → Nat) (cl : List (List Int)) (hB : B ≤ w.heap.size) (hlen : cl.length ≤ 8796093022208) (hc : ClsF w B b o rp rc cl) (ad : Addr) (had : 0 < cl.length → ad = ⟨b, o, none⟩) (hr : Tm.right r l g k cl = true)
    (h1 : ∀ w1 lb, Below w.heap.size w w1 → ClsIn w1 w1.heap.size (.slice (some ⟨lb, 0, none⟩) cl.length (cl.length + 8)) cl → Calls Tryz.prog 30 #[.agg #[.int .i64 r, .int .i64 l, .int .i64 g, .int .i64 k, .slice (some ⟨lb, 0, none⟩) cl.length (cl.length + 8)]] w1 fun e w' => ∃ pa S, e = .returned (.tuple #[.pointer (some ⟨pa, 0, none⟩), .nilIface]) ∧ Below w1.heap.size w1 w' ∧ R S w' pa (Tm.newH r l g k cl) ∧ ∀ x, S x → w1.heap.size ≤ x) :
    Calls Tryz.prog 80 #[.pointer (some ⟨wb, 0, none⟩), .agg #[.int .i64 kd, .int .i64 xA, .int .i64 xB, .int .i64 xD, .int .i64 xE, .int .i64 r, .int .i64 l, .int .i64 g, .int .i64 k, .slice (some ad) cl.length c]] w fun e w' => e = .returned (.bool true) ∧ ∃ pa ra S S' tag Y bL' cL', Begun R w w' wb n cL bL (Tm.newH r l g k cl) pa ra S S' tag Y bL' cL' := by
  have H1 := hide h1
  have HR := hide hR
  have HRl := hide hRl
  have HPr := hide hP
  have HC := hide hc
  have HLe := fun x => hide (lent_any (w.alloc x) B b o c r l g k rp rc cl (by simp; omega) hlen (hc.below ((Below.alloc0 w x).mono hB)) ad had)
  clear h1 hc hR hRl hP
  go_enter Tryz.func80, Tryz.ntmps80
  go_wp2_with fail
  refine ((HLe _).out).mono ?_
  rintro e w1 ⟨lb, mb, nb, rfl, hb, hl, q1, q2, q3, q4, q5⟩
  simp only [World.size_alloc] at q1 q2 hl
  have bx : ∀ i v, (#[.int .i64 kd, .int .i64 xA, .int .i64 xB, .int .i64 xD, .int .i64 xE, .int .i64 r, .int .i64 l, .int .i64 g, .int .i64 k, .slice (some ad) cl.length c] : Array Value)[i]? = some v → w1.cell? ⟨w.heap.size, i, none⟩ = some v := fun i v hv => by
    rw [hb.cell (by simp), World.cell?_alloc_new]; exact hv
  have hz1 := hb.size
  simp only [World.size_alloc] at hz1
  have HB1 : Hid (Below w.heap.size w w1) := (Below.alloc0 _ _).trans (hb.mono (by simp))
  have H1' := fun x => hide (H1.out (w1.alloc x) lb (HB1.out.trans ((Below.alloc0 w1 x).mono (by omega))) (by
    have hl' := hl.same (w' := w1.alloc x) (fun y _ hy => (Below.alloc0 w1 x).block y hy) ⟨by omega, q4⟩ ⟨by omega, q5⟩ (Nat.le_refl _) (by simp)
    exact hl'.clsIn HC.out hlen (by simp; omega) (Nat.le_refl _)))
  have HL := hide hl
  have HNw : Hid (∀ j, j < cl.length → (rp j).isNone = false → nb j < w1.heap.size) := fun j hj q => (hl.new j hj q).2.1
  have HBX := hide bx
  clear hl bx hb HLe H1
  go_wp2_with fail
  refine ((H1' _).out).mono ?_
  rintro e w2 ⟨pa, S, rfl, hb2, hp2, hs2⟩
  have hz2 := hb2.size
  simp only [World.size_alloc] at hz2
  have HB2 : Hid (Below w.heap.size w w2) := HB1.out.trans (((Below.alloc0 w1 _).mono (by omega)).trans (hb2.mono (by simp; omega)))
  have bx2 : ∀ i v, (#[.int .i64 kd, .int .i64 xA, .int .i64 xB, .int .i64 xD, .int .i64 xE, .int .i64 r, .int .i64 l, .int .i64 g, .int .i64 k, .slice (some ad) cl.length c] : Array Value)[i]? = some v → w2.cell? ⟨w.heap.size, i, none⟩ = some v := fun i v hv => by
    rw [hb2.cell (by simp; omega), World.cell?_alloc_lt _ _ _ (by show w.heap.size < _; omega)]; exact HBX.out i v hv
  have k5 := bx2 5 _ rfl
  have k6 := bx2 6 _ rfl
  have k7 := bx2 7 _ rfl
  have k8 := bx2 8 _ rfl
  have k9 := bx2 9 _ rfl
  have cx2 : ∀ i v, (#[.int .i64 r, .int .i64 l, .int .i64 g, .int .i64 k, .slice (some ⟨lb, 0, none⟩) cl.length (cl.length + 8)] : Array Value)[i]? = some v → w2.cell? ⟨w1.heap.size, i, none⟩ = some v := fun i v hv => by
    rw [hb2.cell (by simp), World.cell?_alloc_new]; exact hv
  have HNo := hide (newR_yes w2 B r l g k (some ad) c cl (by omega) ((HC.out.below (HB2.out.mono hB)).clsIn hlen c ad had) hr)
  have HL2 := hide (HL.out.same (w' := w2) (fun y _ hy => by rw [hb2.block y (by simp; omega)]; exact (Below.alloc0 w1 _).block y hy) ⟨by omega, q4⟩ ⟨by omega, q5⟩ (Nat.le_refl _) (by omega))
  have HP2 := hide hp2
  have HS2 := hide hs2
  have HBX2 := hide bx2
  have HCX2 := hide cx2
  clear bx2 cx2 hp2 hs2 hb2 H1' HL HBX
  go_wp2_with fail
  refine (HNo.out).mono ?_
  rintro e w3 ⟨ra, S', tag, Y, rfl, hr3, hs3, hb3⟩
  have hz3 := hb3.size
  have bx3 : ∀ i v, (#[.int .i64 kd, .int .i64 xA, .int .i64 xB, .int .i64 xD, .int .i64 xE, .int .i64 r, .int .i64 l, .int .i64 g, .int .i64 k, .slice (some ad) cl.length c] : Array Value)[i]? = some v → w3.cell? ⟨w.heap.size, i, none⟩ = some v := fun i v hv => by
    rw [hb3.cell (by show w.heap.size < _; omega)]; exact HBX2.out i v hv
  have cx3 : ∀ i v, (#[.int .i64 r, .int .i64 l, .int .i64 g, .int .i64 k, .slice (some ⟨lb, 0, none⟩) cl.length (cl.length + 8)] : Array Value)[i]? = some v → w3.cell? ⟨w1.heap.size, i, none⟩ = some v := fun i v hv => by
    rw [hb3.cell (by show w1.heap.size < _; omega)]; exact HCX2.out i v hv
  have d0 := cx3 0 _ rfl
  have d1 := cx3 1 _ rfl
  have d2 := cx3 2 _ rfl
  have d3 := cx3 3 _ rfl
  have d4 := cx3 4 _ rfl
  have e5 := bx3 5 _ rfl
  have e6 := bx3 6 _ rfl
  have e7 := bx3 7 _ rfl
  have e8 := bx3 8 _ rfl
  have e9 := bx3 9 _ rfl
  have HB3 : Hid (Below w.heap.size w w3) := HB2.out.trans (hb3.mono (by omega))
  have HL3 := hide (HL2.out.same (w' := w3) (fun y _ hy => hb3.block y hy) ⟨by omega, by omega⟩ ⟨by omega, by omega⟩ (Nat.le_refl _) (by omega))
  have HW := hide (whole_any w3 B (w.heap.size + 1) b o c lb mb r l g k r l g k rp rc nb cl (by omega) hlen (HC.out.below (HB3.out.mono hB)) ad had HL3.out ⟨by omega, by omega⟩ ⟨by omega, by omega⟩ q3)
  have HK3 := hide (Kept.of_below (S := fun x => x < w1.heap.size + 1) hb3)
  have HP3 := hide (HR.out S w2 w3 pa _ HP2.out (Same.below hb3 (HRl.out S w2 pa _ HP2.out)) (by omega))
  have HSl := hide (HRl.out S w2 pa _ HP2.out)
  have HR3 := hide hr3
  have HS3 := hide hs3
  clear hr3 hs3
  clear bx3 cx3 hb3 k5 k6 k7 k8 k9 HNo HBX2 HCX2 HL2
  go_wp2_with fail
  refine (HW.out).mono ?_
  rintro e w4 ⟨rfl, hk4⟩
  have HB4 := hide (Kept.lent HB3.out hk4 HL3.out (by omega) (by omega) (Nat.le_refl _))
  have hz4 := HB4.out.size
  have h34 : ∀ x, w1.heap.size ≤ x → x < w3.heap.size → w4.heap[x]? = w3.heap[x]? := fun x h1 h2 => hk4.block x h2 (fun hx => by
    rcases hx with rfl | ⟨j, hj, q, rfl⟩
    · omega
    · have := HNw.out j hj q; omega)
  have hz34 := hk4.size
  have HP4 := hide (HR.out S w3 w4 pa _ HP3.out (fun x hx => h34 x (by have := HS2.out x hx; simp at this; omega) (by have := HSl.out x hx; omega)) hz34)
  have HR4 := hide (HR3.out.same (w' := w4) (fun x hx => h34 x (by have := HS3.out x hx; omega) (HR3.out.lt x hx)) hz34)
  have HPr4 := hide (HPr.out.below HB4.out)
  have hh := HPr4.out.head
  have hsf := HPr4.out.soft
  have hlt := HPr4.out.lt
  have hwb := HPr.out.lt
  obtain ⟨iP, hiP, hp0, hp1, hp2⟩ := info_parts infoPair
  have HiP := hide hiP
  have HI0 := hide hp0
  have HI1 := hide hp1
  have HI2 := hide hp2
  clear hiP hp0 hp1 hp2 hk4 h34 HW HL3 HK3 HP3 HP2 HR3
  go_wp2_with (at_builtin; refine wpList_put2 _ rfl (.tmp 52) (.tmp 56) 79 rfl 116 iP (.agg #[.pointer none, .pointer none]) 16 Tryz.underlying79 HiP.out HI0.out HI1.out HI2.out rfl pL n cL bL rfl ?L ?L0 ?cap ?cm ⟨_, 0, none⟩ 1 (.pointer (some ⟨pa, 0, none⟩)) (.pointer (some ⟨ra, 0, none⟩)) rfl ?c0 ?c1 rfl rfl ?b1 ?b2 ?K)
  case L => exact fun h0 => ⟨(HPr4.out.list h0).1, by
    obtain ⟨cur, q1, q2⟩ := (HPr4.out.list h0).2
    exact ⟨cur, by rw [(Below.alloc0 w4 _).block bL (HPr4.out.blt h0)]; exact q1, q2⟩⟩
  case L0 => exact HPr4.out.nil
  case cap => exact HPr4.out.cap
  case cm => exact HPr4.out.capm
  case b1 => unfold maxLen; omega
  case b2 => omega
  case K =>
    intro w5 bL' cL' ap
    have HAp := hide ap
    have hz5 := ap.size
    simp only [World.size_alloc] at hz5
    have hold : ∀ x, x < w4.heap.size → x ≠ bL' → w5.heap[x]? = w4.heap[x]? := fun x h1 h2 => by rw [HAp.out.old x (by simp; omega) h2]; exact (Below.alloc0 w4 _).block x h1
    have hbl : (bL' = bL ∧ 0 < cL) ∨ w4.heap.size + 1 ≤ bL' := by have := ap.bl; simpa using this
    have hbw : bL' ≠ wb := fun e => by
      rcases hbl with ⟨q, q0⟩ | q
      · exact HPr.out.ne q0 (by rw [← q, e])
      · omega
    have hwb5 := hold wb (by omega) (fun e => hbw e.symm)
    have u0 : w5.cell? ⟨wb, 0, none⟩ = some (.slice pL n cL) := by rw [cell_of hwb5]; exact hh
    have u1 : w5.frozen? ⟨wb, 0, none⟩ = false := by rw [frozen_of hwb5]; exact hsf
    have nbS : ¬ S bL' := fun e => by
      rcases hbl with ⟨q, q0⟩ | q
      · have h1 := HS2.out _ e; have h2 := HPr.out.blt q0; simp at h1; omega
      · have := HSl.out _ e; omega
    have nbS' : ¬ S' bL' := fun e => by
      rcases hbl with ⟨q, q0⟩ | q
      · have h1 := HS3.out _ e; have h2 := HPr.out.blt q0; omega
      · have := HR4.out.lt _ e; omega
    have nwS : ∀ x, S x → x ≠ wb := fun x hx e => by have h1 := HS2.out _ hx; simp at h1; omega
    have nwS' : ∀ x, S' x → x ≠ wb := fun x hx e => by have h1 := HS3.out _ hx; omega
    have hset : ∀ x, x < w4.heap.size → x ≠ bL' → x ≠ wb → (w5.setCell ⟨wb, 0, none⟩ (.slice (some ⟨bL', 0, none⟩) (n + 1) cL')).heap[x]? = w4.heap[x]? := fun x h1 h2 h3 => by rw [Below.heap_setCell _ _ _ _ h3]; exact hold x h1 h2
    have HF : Hid (Begun R w (w5.setCell ⟨wb, 0, none⟩ (.slice (some ⟨bL', 0, none⟩) (n + 1) cL')) wb n cL bL (Tm.newH r l g k cl) pa ra S S' tag Y bL' cL') := by
      have ewb : ∀ b i, b ≠ wb → (w5.setCell ⟨wb, 0, none⟩ (.slice (some ⟨bL', 0, none⟩) (n + 1) cL')).cell? ⟨b, i, none⟩ = w5.cell? ⟨b, i, none⟩ := fun b i h => World.cell?_setCell_other _ _ _ _ (fun e => h (congrArg Addr.block e).symm)
      refine ⟨HR.out S w4 _ pa _ HP4.out (fun x hx => hset x (by have := HSl.out x hx; omega) (fun e => nbS (e ▸ hx)) (nwS x hx)) (by simp; omega), HR4.out.same (fun x hx => hset x (HR4.out.lt x hx) (fun e => nbS' (e ▸ hx)) (nwS' x hx)) (by simp; omega), fun x hx => ?_, fun x hx => ?_, fun x h1 h2 => ?_, ⟨World.cell?_setCell_same _ _ _ u0, by rw [World.frozen?_setCell]; exact u1, by simp; omega, fun _ => ⟨rfl, ?_⟩, fun _ => hbw, fun h => ?_, HAp.out.cap, HAp.out.capm⟩, ?_, ⟨nbS, nbS'⟩, fun i hi => ?_, ?_, ?_, fun i hi => ?_, ?_, fun i => by rw [World.frozen?_setCell, frozen_of hwb5, HB4.out.frozen hwb]⟩
      · have := HS2.out x hx; simp at this; omega
      · have := HS3.out x hx; omega
      · have q1 := HSl.out x h1; have q2 := HS3.out x h2; omega
      · obtain ⟨cur, q1, q2⟩ := HAp.out.block
        exact ⟨cur, by rw [Below.heap_setCell _ _ _ _ hbw]; exact q1, q2⟩
      · have := HAp.out.cap; omega
      · rcases hbl with q | q
        · exact Or.inl q
        · exact Or.inr (by omega)
      · rw [ewb _ _ hbw, HAp.out.keep i hi]
        have h0 : 0 < cL := by have := HPr.out.cap; omega
        rw [World.cell?_alloc_lt _ _ _ (HPr4.out.blt h0), HB4.out.cell (HPr.out.blt h0)]
      · rw [ewb _ _ hbw]; exact HAp.out.last0
      · rw [ewb _ _ hbw]; exact HAp.out.last1
      · rw [World.cell?_setCell_other _ _ _ _ (fun e => hi (congrArg Addr.off e).symm), cell_of hwb5, HB4.out.cell hwb]
      · exact ⟨HAp.out.os.trans HB4.out.os, HAp.out.tape.trans HB4.out.tape, HAp.out.output.trans HB4.out.output, by simp; omega, fun x hx hn => by
          rw [hset x (by omega) (fun e => hn (Or.inr e)) (fun e => hn (Or.inl e))]; exact HB4.out.block x hx⟩
    have hlt5 : wb < w5.heap.size := by omega
    clear ap hold hbl hbw hwb5 nbS nbS' nwS nwS' hset HAp
    go_wp2_with fail
    go_ret
    exact ⟨rfl, pa, ra, S, S', tag, Y, bL', cL', HF.out⟩
  case c0 => rw [Addr.add_lit, Nat.zero_add, World.cell?_alloc_new]; rfl
  case c1 => rw [Addr.add_lit, Nat.zero_add, World.cell?_alloc_new]; rfl
end Go.Proofs.YtcnmfljpmpgnjaaGreatDoor

namespace Go.Proofs.YtcnmfljpmpgnjaaGreatDoor
open Go.RowKit
open Tm (H Ob Sl Why)

set_option maxRecDepth 100000 in
set_option maxHeartbeats 4000000 in
theorem begun_nil (N : Nat) (A : Nat → Addr) (w : World) (hE : Errs N A w) (hN : N ≤ w.heap.size) (wb c : Nat) (kd xA xB xD xE r l g k : Int)
    (h1 : ∀ w1, Below w.heap.size w w1 → Calls Tryz.prog 30 #[.agg #[.int .i64 r, .int .i64 l, .int .i64 g, .int .i64 k, .slice none 0 c]] w1 fun e w' => ∃ ev, e = .returned (.tuple #[.pointer none, ev]) ∧ Below w1.heap.size w1 w' ∧ ErrIs A w' ev ⟨1, 0⟩) :
    Calls Tryz.prog 80 #[.pointer (some ⟨wb, 0, none⟩), .agg #[.int .i64 kd, .int .i64 xA, .int .i64 xB, .int .i64 xD, .int .i64 xE, .int .i64 r, .int .i64 l, .int .i64 g, .int .i64 k, .slice none 0 c]] w fun e w' => e = .returned (.bool true) ∧ Below w.heap.size w w' := by
  have H1 := hide h1
  have HE := hide hE
  have HLe := fun x => hide (lent_nil (w.alloc x) r l g k c)
  clear h1 hE
  go_enter Tryz.func80, Tryz.ntmps80
  go_wp2_with fail
  refine ((HLe _).out).mono ?_
  rintro e w1 ⟨rfl, hb⟩
  have bx : ∀ i v, (#[.int .i64 kd, .int .i64 xA, .int .i64 xB, .int .i64 xD, .int .i64 xE, .int .i64 r, .int .i64 l, .int .i64 g, .int .i64 k, .slice none 0 c] : Array Value)[i]? = some v → w1.cell? ⟨w.heap.size, i, none⟩ = some v := fun i v hv => by
    rw [hb.cell (by simp), World.cell?_alloc_new]; exact hv
  have hz1 := hb.size
  simp only [World.size_alloc] at hz1
  have HB1 : Hid (Below w.heap.size w w1) := (Below.alloc0 _ _).trans (hb.mono (by simp))
  have H1' := fun x => hide (H1.out (w1.alloc x) (HB1.out.trans ((Below.alloc0 w1 x).mono (by omega))))
  have HBX := hide bx
  clear bx hb HLe H1
  go_wp2_with fail
  refine ((H1' _).out).mono ?_
  rintro e w2 ⟨ev, rfl, hb2, he⟩
  have hz2 := hb2.size
  simp only [World.size_alloc] at hz2
  have HB2 : Hid (Below w.heap.size w w2) := HB1.out.trans (((Below.alloc0 w1 _).mono (by omega)).trans (hb2.mono (by simp; omega)))
  have bx2 : ∀ i v, (#[.int .i64 kd, .int .i64 xA, .int .i64 xB, .int .i64 xD, .int .i64 xE, .int .i64 r, .int .i64 l, .int .i64 g, .int .i64 k, .slice none 0 c] : Array Value)[i]? = some v → w2.cell? ⟨w.heap.size, i, none⟩ = some v := fun i v hv => by
    rw [hb2.cell (by simp; omega), World.cell?_alloc_lt _ _ _ (by show w.heap.size < _; omega)]; exact HBX.out i v hv
  have k5 := bx2 5 _ rfl
  have k6 := bx2 6 _ rfl
  have k7 := bx2 7 _ rfl
  have k8 := bx2 8 _ rfl
  have k9 := bx2 9 _ rfl
  have cx2 : ∀ i v, (#[.int .i64 r, .int .i64 l, .int .i64 g, .int .i64 k, .slice none 0 c] : Array Value)[i]? = some v → w2.cell? ⟨w1.heap.size, i, none⟩ = some v := fun i v hv => by
    rw [hb2.cell (by simp), World.cell?_alloc_new]; exact hv
  have HNo := hide (newR_no w2 w2.heap.size r l g k none c [] (Nat.le_refl _) ⟨_, _, rfl, fun _ => rfl, by simp, fun h => by simp at h⟩ (by simp [Tm.right, Tm.inR]))
  have HEr := hide he
  have HBX2 := hide bx2
  have HCX2 := hide cx2
  clear bx2 cx2 he hb2 H1' HBX
  go_wp2_with fail
  refine (HNo.out).mono ?_
  rintro e w3 ⟨rfl, hb3⟩
  have hz3 := hb3.size
  have bx3 : ∀ i v, (#[.int .i64 kd, .int .i64 xA, .int .i64 xB, .int .i64 xD, .int .i64 xE, .int .i64 r, .int .i64 l, .int .i64 g, .int .i64 k, .slice none 0 c] : Array Value)[i]? = some v → w3.cell? ⟨w.heap.size, i, none⟩ = some v := fun i v hv => by
    rw [hb3.cell (by show w.heap.size < _; omega)]; exact HBX2.out i v hv
  have cx3 : ∀ i v, (#[.int .i64 r, .int .i64 l, .int .i64 g, .int .i64 k, .slice none 0 c] : Array Value)[i]? = some v → w3.cell? ⟨w1.heap.size, i, none⟩ = some v := fun i v hv => by
    rw [hb3.cell (by show w1.heap.size < _; omega)]; exact HCX2.out i v hv
  have d0 := cx3 0 _ rfl
  have d1 := cx3 1 _ rfl
  have d2 := cx3 2 _ rfl
  have d3 := cx3 3 _ rfl
  have d4 := cx3 4 _ rfl
  have e5 := bx3 5 _ rfl
  have e6 := bx3 6 _ rfl
  have e7 := bx3 7 _ rfl
  have e8 := bx3 8 _ rfl
  have e9 := bx3 9 _ rfl
  have HB3 : Hid (Below w.heap.size w w3) := HB2.out.trans (hb3.mono (by omega))
  have HEr3 := hide (HEr.out.below hb3)
  have HW := hide (whole_nil w3 r l g k r l g k (.slice none 0 0) c)
  clear bx3 cx3 hb3 k5 k6 k7 k8 k9 HNo HBX2 HCX2
  go_wp2_with fail
  refine (HW.out).mono ?_
  rintro e w4 ⟨rfl, hb4⟩
  have hz4 := hb4.size
  have HB4 : Hid (Below w.heap.size w w4) := HB3.out.trans (hb4.mono (by omega))
  have HI0 := hide (is_any N A w4 (HE.out.below HB4.out hN) ev ⟨1, 0⟩ (HEr3.out.below hb4))
  clear hb4 HW
  go_wp2_with fail
  refine (HI0.out).mono ?_
  rintro e w5 ⟨rfl, hb5⟩
  have HB5 : Hid (Below w.heap.size w w5) := HB4.out.trans (hb5.mono (by omega))
  clear hb5
  go_wp2_with fail
  go_ret
  exact ⟨rfl, HB5.out⟩
end Go.Proofs.YtcnmfljpmpgnjaaGreatDoor

namespace Go.Proofs.YtcnmfljpmpgnjaaGreatDoor
open Go.RowKit
open Tm (H Ob Sl Why)

set_option maxRecDepth 100000 in
set_option maxHeartbeats 4000000 in
theorem step_new (w : World) (wb : Nat) (xA xB xD xE c0 c1 c2 c3 : Int) (cp : Option Addr) (cn cc : Nat) (Q : World → Prop)
    (h1 : ∀ x, Calls Tryz.prog 80 #[.pointer (some ⟨wb, 0, none⟩), .agg #[.int .i64 1, .int .i64 xA, .int .i64 xB, .int .i64 xD, .int .i64 xE, .int .i64 c0, .int .i64 c1, .int .i64 c2, .int .i64 c3, .slice cp cn cc]] (w.alloc x) fun e w' => e = .returned (.bool true) ∧ Q w') :
    Calls Tryz.prog 47 #[.pointer (some ⟨wb, 0, none⟩), .agg #[.int .i64 1, .int .i64 xA, .int .i64 xB, .int .i64 xD, .int .i64 xE, .int .i64 c0, .int .i64 c1, .int .i64 c2, .int .i64 c3, .slice cp cn cc]] w fun e w' => e = .returned (.bool true) ∧ Q w' := by
  have H1 := fun x => hide (h1 x)
  clear h1
  go_enter Tryz.func47, Tryz.ntmps47
  go_wp2_with fail
  refine ((H1 _).out).mono ?_
  rintro e w2 ⟨rfl, hq⟩
  have HQ := hide hq
  clear hq
  go_wp2_with fail
  go_ret
  exact ⟨rfl, HQ.out⟩

set_option maxRecDepth 100000 in
set_option maxHeartbeats 4000000 in
theorem step_none (w : World) (wb cL bL : Nat) (pL : Option Addr) (hP : Prs w wb 0 cL bL pL) (kd xA xB xD xE c0 c1 c2 c3 : Int) (cp : Option Addr) (cn cc : Nat) (hk : 2 ≤ kd) (hk2 : kd ≤ 18) :
    Calls Tryz.prog 47 #[.pointer (some ⟨wb, 0, none⟩), .agg #[.int .i64 kd, .int .i64 xA, .int .i64 xB, .int .i64 xD, .int .i64 xE, .int .i64 c0, .int .i64 c1, .int .i64 c2, .int .i64 c3, .slice cp cn cc]] w fun e w' => e = .returned (.bool true) ∧ Below w.heap.size w w' := by
  have hh := hP.head
  have hlt := hP.lt
  have k1 : (kd == 1) = false := by simp; omega
  have k2 : decide (kd < 2) = false := by simp; omega
  have k3 : decide (kd > 18) = false := by simp; omega
  clear hP
  go_enter Tryz.func47, Tryz.ntmps47
  go_wp2_with fail
  go_ret
  exact ⟨rfl, Below.alloc0 _ _⟩

end Go.Proofs.YtcnmfljpmpgnjaaGreatDoor

namespace Go.Proofs.YtcnmfljpmpgnjaaGreatDoor
open Go.RowKit
open Tm (H Ob Sl Why)

/-- Which of n things a number speaks of. -/
def pickN (c : Int) (n : Nat) : Nat := ((if c < 0 then -(c + 1) else c) % (n : Int)).toNat

theorem pickN_lt (c : Int) (n : Nat) (h0 : 0 < n) : pickN c n < n := by
  unfold pickN
  generalize (if c < 0 then -(c + 1) else c) = x
  have := Int.emod_lt_of_pos x (show (0 : Int) < n by omega)
  have := Int.emod_nonneg x (show (n : Int) ≠ 0 by omega)
  omega

theorem pick_is (c : Int) (n : Nat) (w : World) (h0 : 0 < n) (hn : n < 4398046511104) (hc : -9223372036854775808 ≤ c) (hc2 : c ≤ 9223372036854775807) :
    Calls Tryz.prog 82 #[.int .i64 c, .int .i64 (n : Int)] w fun e w' => e = .returned (.int .i64 (pickN c n : Nat)) ∧ w' = w := by
  have HK : Hid ((pickN c n : Int) = (if c < 0 then -(c + 1) else c) % (n : Int)) := by
    show (pickN c n : Int) = _
    unfold pickN
    rw [Int.toNat_of_nonneg (Int.emod_nonneg _ (show (n : Int) ≠ 0 by omega))]
  generalize pickN c n = pk at *
  by_cases h1 : c < 0
  · go_enter Tryz.func82, Tryz.ntmps82
    go_wp2_with fail
    go_ret
    exact ⟨ret_int (by rw [HK.out, if_pos h1, ← Int.neg_tmod, Int.tmod_eq_emod_of_nonneg (by omega)]), rfl⟩
  · go_enter Tryz.func82, Tryz.ntmps82
    go_wp2_with fail
    go_ret
    exact ⟨ret_int (by rw [HK.out, if_neg (by omega)]), rfl⟩

/-- What a step on a heap leaves as it was. -/
def StepKeep (w w2 : World) (wb bL : Nat) (o : Obj) : Prop :=
  w2.cell? ⟨wb, 0, none⟩ = w.cell? ⟨wb, 0, none⟩ ∧ w2.heap[bL]? = w.heap[bL]? ∧ ∀ i, w2.cell? ⟨w.heap.size, i, none⟩ = (w.alloc o).cell? ⟨w.heap.size, i, none⟩

set_option maxRecDepth 100000 in
set_option maxHeartbeats 8000000 in
theorem step_ask (w : World) (wb n cL bL : Nat) (pL : Option Addr) (hP : Prs w wb n cL bL pL) (h0 : 0 < n) (hn : n < 4398046511104) (pa ra : Nat → Nat) (hp : ∀ j, j < n → w.cell? ⟨bL, j * 2, none⟩ = some (.pointer (some ⟨pa j, 0, none⟩)) ∧ w.cell? ⟨bL, j * 2 + 1, none⟩ = some (.pointer (some ⟨ra j, 0, none⟩)))
    (kd xA xB xD xE c0 c1 c2 c3 : Int) (cp : Option Addr) (cn cc : Nat) (hk : 2 ≤ kd) (hk2 : kd ≤ 18) (hx : -9223372036854775808 ≤ xA) (hx2 : xA ≤ 9223372036854775807) (Q : World → Prop)
    (h1 : ∀ d, Calls Tryz.prog 81 #[.pointer (some ⟨wb, 0, none⟩), .agg #[.pointer (some ⟨pa (pickN xA n), 0, none⟩), .pointer (some ⟨ra (pickN xA n), 0, none⟩)], .agg #[.int .i64 kd, .int .i64 xA, .int .i64 xB, .int .i64 xD, .int .i64 xE, .int .i64 c0, .int .i64 c1, .int .i64 c2, .int .i64 c3, .slice cp cn cc]] ((w.alloc (.cells #[.int .i64 kd, .int .i64 xA, .int .i64 xB, .int .i64 xD, .int .i64 xE, .int .i64 c0, .int .i64 c1, .int .i64 c2, .int .i64 c3, .slice cp cn cc] 85)).drewN d) fun e w' => e = .returned (.bool true) ∧ Q w' ∧ StepKeep w w' wb bL (.cells #[.int .i64 kd, .int .i64 xA, .int .i64 xB, .int .i64 xD, .int .i64 xE, .int .i64 c0, .int .i64 c1, .int .i64 c2, .int .i64 c3, .slice cp cn cc] 85)) :
    Calls Tryz.prog 47 #[.pointer (some ⟨wb, 0, none⟩), .agg #[.int .i64 kd, .int .i64 xA, .int .i64 xB, .int .i64 xD, .int .i64 xE, .int .i64 c0, .int .i64 c1, .int .i64 c2, .int .i64 c3, .slice cp cn cc]] w fun e w' => e = .returned (.bool true) ∧ Q w' := by
  have hcl : 0 < cL := by have := hP.cap; omega
  obtain ⟨rfl, _⟩ := hP.list hcl
  have hh := hP.head
  have hlt := hP.lt
  have hbl := hP.blt hcl
  have k1 : (kd == 1) = false := by simp; omega
  have k2 : decide (kd < 2) = false := by simp; omega
  have k3 : decide (kd > 18) = false := by simp; omega
  have k4 : ((n : Int) == 0) = false := by simp; omega
  have H1 := hide h1
  have hj := pickN_lt xA n h0
  have HPk := fun w' => hide (pick_is xA n w' h0 hn hx hx2)
  have c0' : ∀ x, (w.alloc x).cell? ⟨bL, pickN xA n * 2, none⟩ = some (.pointer (some ⟨pa (pickN xA n), 0, none⟩)) ∧ (w.alloc x).cell? ⟨bL, pickN xA n * 2 + 1, none⟩ = some (.pointer (some ⟨ra (pickN xA n), 0, none⟩)) := fun x => by rw [World.cell?_alloc_lt _ _ _ hbl, World.cell?_alloc_lt _ _ _ hbl]; exact hp _ hj
  have HKp : Hid (∀ w2, StepKeep w w2 wb bL (.cells #[.int .i64 kd, .int .i64 xA, .int .i64 xB, .int .i64 xD, .int .i64 xE, .int .i64 c0, .int .i64 c1, .int .i64 c2, .int .i64 c3, .slice cp cn cc] 85) → w2.cell? ⟨wb, 0, none⟩ = some (.slice (some ⟨bL, 0, none⟩) n cL) ∧ w2.cell? ⟨bL, pickN xA n * 2, none⟩ = some (.pointer (some ⟨pa (pickN xA n), 0, none⟩)) ∧ w2.cell? ⟨bL, pickN xA n * 2 + 1, none⟩ = some (.pointer (some ⟨ra (pickN xA n), 0, none⟩)) ∧ w2.cell? ⟨w.heap.size, 0, none⟩ = some (.int .i64 kd) ∧ w2.cell? ⟨w.heap.size, 1, none⟩ = some (.int .i64 xA) ∧ w2.cell? ⟨w.heap.size, 2, none⟩ = some (.int .i64 xB) ∧ w2.cell? ⟨w.heap.size, 3, none⟩ = some (.int .i64 xD) ∧ w2.cell? ⟨w.heap.size, 4, none⟩ = some (.int .i64 xE) ∧ w2.cell? ⟨w.heap.size, 5, none⟩ = some (.int .i64 c0) ∧ w2.cell? ⟨w.heap.size, 6, none⟩ = some (.int .i64 c1) ∧ w2.cell? ⟨w.heap.size, 7, none⟩ = some (.int .i64 c2) ∧ w2.cell? ⟨w.heap.size, 8, none⟩ = some (.int .i64 c3) ∧ w2.cell? ⟨w.heap.size, 9, none⟩ = some (.slice cp cn cc)) := fun w2 hs => by
    have hx : ∀ i v, (#[.int .i64 kd, .int .i64 xA, .int .i64 xB, .int .i64 xD, .int .i64 xE, .int .i64 c0, .int .i64 c1, .int .i64 c2, .int .i64 c3, .slice cp cn cc] : Array Value)[i]? = some v → w2.cell? ⟨w.heap.size, i, none⟩ = some v := fun i v hv => by rw [hs.2.2 i, World.cell?_alloc_new]; exact hv
    exact ⟨by rw [hs.1]; exact hh, by rw [cell_of hs.2.1]; exact (hp _ hj).1, by rw [cell_of hs.2.1]; exact (hp _ hj).2, hx 0 _ rfl, hx 1 _ rfl, hx 2 _ rfl, hx 3 _ rfl, hx 4 _ rfl, hx 5 _ rfl, hx 6 _ rfl, hx 7 _ rfl, hx 8 _ rfl, hx 9 _ rfl⟩
  clear hP h1 hp
  generalize pickN xA n = j at *
  have bj : (j : Int) < (n : Int) := by omega
  have cz0 := fun x => (c0' x).1
  have cz1 := fun x => (c0' x).2
  clear c0'
  go_enter Tryz.func47, Tryz.ntmps47
  go_wp2_with fail
  go_region_held3 (fun w' => w'.cell? ⟨wb, 0, none⟩ = some (.slice (some ⟨bL, 0, none⟩) n cL) ∧ w'.cell? ⟨bL, j * 2, none⟩ = some (.pointer (some ⟨pa j, 0, none⟩)) ∧ w'.cell? ⟨bL, j * 2 + 1, none⟩ = some (.pointer (some ⟨ra j, 0, none⟩)) ∧ w'.cell? ⟨w.heap.size, 0, none⟩ = some (.int .i64 kd) ∧ w'.cell? ⟨w.heap.size, 1, none⟩ = some (.int .i64 xA) ∧ w'.cell? ⟨w.heap.size, 2, none⟩ = some (.int .i64 xB) ∧ w'.cell? ⟨w.heap.size, 3, none⟩ = some (.int .i64 xD) ∧ w'.cell? ⟨w.heap.size, 4, none⟩ = some (.int .i64 xE) ∧ w'.cell? ⟨w.heap.size, 5, none⟩ = some (.int .i64 c0) ∧ w'.cell? ⟨w.heap.size, 6, none⟩ = some (.int .i64 c1) ∧ w'.cell? ⟨w.heap.size, 7, none⟩ = some (.int .i64 c2) ∧ w'.cell? ⟨w.heap.size, 8, none⟩ = some (.int .i64 c3) ∧ w'.cell? ⟨w.heap.size, 9, none⟩ = some (.slice cp cn cc)) (first | go_keep | trivial) (first | (go_at_call 82; refine ((HPk _).out).mono ?_; rintro e w' ⟨rfl, rfl⟩) | (go_at_call 81; refine (H1.out _).mono ?_; rintro e w2 ⟨rfl, hq, hs⟩; have HQ := hide hq; obtain ⟨s0, s1, s2, s3, s4, s5, s6, s7, s8, s9, sa, sb, sc⟩ := HKp.out w2 hs; clear hq hs))
  all_goals go_wp2_with fail
  all_goals go_ret
  all_goals exact ⟨rfl, HQ.out⟩
end Go.Proofs.YtcnmfljpmpgnjaaGreatDoor

namespace Go.Proofs.YtcnmfljpmpgnjaaGreatDoor
open Go.RowKit
open Tm (H Ob Sl Why)

/-- What Own leaves behind: its lists. -/
structure OwnAt (w w' : World) (B : Nat) : Prop where
  below : Below B w w'
  size : w'.heap.size = B + 3
  row : w'.cell? ⟨B + 1 + 1, 0, none⟩ = some (.slice (some ⟨B + 1, 0, none⟩) 2 2)
  one : w'.cell? ⟨B + 1, 0, none⟩ = some (.int .i64 1)
  two : w'.cell? ⟨B + 1, 1, none⟩ = some (.int .i64 2)

set_option maxRecDepth 100000 in
set_option maxHeartbeats 4000000 in
theorem own_any (w : World) :
    Calls Tryz.prog 79 #[] w fun e w' => e = .returned (.agg #[.int .i64 10, .int .i64 3, .int .i64 2, .int .i64 2, .slice (some ⟨w.heap.size + 1 + 1, 0, none⟩) 1 1]) ∧ OwnAt w w' w.heap.size := by
  go_enter Tryz.func79, Tryz.ntmps79
  go_wp2_with fail
  refine bodyPost_ret (v := .agg #[.int .i64 10, .int .i64 3, .int .i64 2, .int .i64 2, .slice (some ⟨w.heap.size + 1 + 1, 0, none⟩) 1 1]) (by simp [results, Tryz.results79, go_sem]) rfl ⟨rfl, ?_, ?_, ?_, ?_, ?_⟩
  · repeat (first | exact Below.refl _ _ | refine Below.setCell ?_ (by simp) _ | refine Below.alloc ?_ (by simp; try omega) _)
  all_goals simp [go_sem]

def firstOp (kd xB xD xE : Int) : List Value := [.int .i64 kd, .int .i64 0, .int .i64 xB, .int .i64 xD, .int .i64 xE, .int .i64 0, .int .i64 0, .int .i64 0, .int .i64 0, .slice none 0 0]
/-- The cells of the list of what is asked first. -/
def firstV (b : Nat) : List Value :=
  [.int .i64 1, .int .i64 0, .int .i64 0, .int .i64 0, .int .i64 0, .int .i64 10, .int .i64 3, .int .i64 2, .int .i64 2, .slice (some ⟨b, 0, none⟩) 1 1] ++ firstOp 2 0 0 0 ++ firstOp 5 257 0 7 ++ firstOp 2 0 0 0 ++ firstOp 7 261 1 257 ++ firstOp 9 3 257 0 ++ firstOp 10 257 0 0 ++ firstOp 4 259 0 0 ++ firstOp 6 261 1 0 ++ firstOp 8 513 259 0 ++ firstOp 10 513 0 0 ++ firstOp 11 0 0 0 ++ firstOp 13 42 0 0 ++ firstOp 15 0 0 0 ++ firstOp 17 261 0 0 ++ firstOp 18 261 0 0 ++ firstOp 16 261 0 0 ++ firstOp 10 261 0 0 ++ firstOp 10 769 0 0 ++ firstOp 12 0 0 0 ++ firstOp 14 0 0 0 ++ firstOp 11 0 0 0

end Go.Proofs.YtcnmfljpmpgnjaaGreatDoor

namespace Go.Proofs.YtcnmfljpmpgnjaaGreatDoor
open Go.RowKit
open Tm (H Ob Sl Why)

theorem infoOp : (Tryz.prog.info? 85).map (fun i => (i.zero, i.size, i.bytes)) = some (some (.agg #[.int .i64 0, .int .i64 0, .int .i64 0, .int .i64 0, .int .i64 0, .int .i64 0, .int .i64 0, .int .i64 0, .int .i64 0, .slice none 0 0]), 10, 96) := by kernel_rfl

set_option maxRecDepth 100000 in
set_option maxHeartbeats 16000000 in
theorem first_any (w : World) :
    Calls Tryz.prog 45 #[] w fun e w' => e = .returned (.slice (some ⟨w.heap.size + 3, 0, none⟩) 22 22) ∧ ∃ w1, OwnAt w w1 w.heap.size ∧ w' = w1.alloc (.cells (firstV (w.heap.size + 1 + 1)).toArray 85) := by
  have HO := hide (own_any w)
  go_enter Tryz.func45, Tryz.ntmps45
  go_wp2_with fail
  refine HO.out.mono ?_
  rintro e w1 ⟨rfl, ho⟩
  have hz := ho.size
  have HW := hide ho
  clear ho HO
  obtain ⟨iP, hiP, hp0, hp1, hp2⟩ := info_parts infoOp
  have HiP := hide hiP
  have HI0 := hide hp0
  have HI1 := hide hp1
  clear hiP hp0 hp1 hp2
  go_wp2_with fail
  refine wp_buildSlice 22 85 22 _ rfl (firstV (w.heap.size + 1 + 1)).toArray iP _ Tryz.underlying22 HiP.out HI0.out (by rw [HI1.out]; decide) (by rw [HI1.out]; decide) ?hf ?h
  case hf => rw [HI1.out]; kernel_rfl
  case h =>
    rw [hz]
    go_wp2_with fail
    go_ret
    exact ⟨rfl, w1, HW.out, rfl⟩
end Go.Proofs.YtcnmfljpmpgnjaaGreatDoor
