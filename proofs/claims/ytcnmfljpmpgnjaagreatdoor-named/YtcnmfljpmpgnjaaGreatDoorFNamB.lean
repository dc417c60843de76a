import Derived.Test.YtcnmfljpmpgnjaaGreatDoorFNamA
import Derived.Test.YtcnmfljpmpgnjaaGreatDoorK10
import Derived.Test.YtcnmfljpmpgnjaaGreatDoorK46
import Derived.Test.YtcnmfljpmpgnjaaGreatDoorCards
import Derived.Test.YtcnmfljpmpgnjaaGreatDoorTie
import Derived.SevenTiedAt
import Derived.Deep.Grids
import Derived.Test.YtcnmfljpmpgnjaaGreatDoorK44
namespace Go.Proofs.YtcnmfljpmpgnjaaGreatDoor
namespace Tm
theorem b4_sl (k i : Nat) : b4.sl k i = if k = 1 ∧ i = 0 then ⟨1, 0, 1⟩ else sl0 := by
  have hz : ∀ (n : Int) i, (slots0 n).getD i sl0 = sl0 := fun n i => by
    simp only [slots0, List.getD_eq_getElem?_getD, List.getElem?_replicate]; split <;> rfl
  have h0 : ∀ k i, b0.sl k i = sl0 := fun k i => by
    unfold b0 newH H.sl
    simp only
    split
    · exact hz _ _
    · split
      · exact hz _ _
      · split
        · exact hz _ _
        · simp
  have e : b4.sl k i = ((b0.setSl 1 0 ⟨1, 1, 1⟩).setSl 1 0 ⟨1, 0, 1⟩).sl k i := rfl
  rw [e, sl_setSl _ 1 0 k i _ (by rw [len_setSl]; decide)]
  by_cases q : k = 1 ∧ i = 0
  · rw [if_pos q, if_pos q]
  · rw [if_neg q, if_neg q, sl_setSl _ 1 0 k i _ (by decide), if_neg q, h0]

theorem Nd.b4 : Nd Tm.b4 [] [] := by
  refine ⟨rfl, rfl, by simp, (fun j hj => absurd hj (Nat.not_lt_zero _)), by decide, Nat.le_refl _, (fun i hi => absurd hi (Nat.not_lt_zero _)), (fun j hj => absurd hj (Nat.not_lt_zero _)), List.nodup_nil, fun i _ => ?_, fun i => ?_, fun i => ?_, rfl, rfl, rfl⟩
  · rw [b4_sl]; split <;> rfl
  · rw [b4_sl]; split <;> simp [sl0]
  · rw [b4_sl, if_neg (fun q => by omega)]; rfl

theorem Nd.told {h : H} {os : List (Int × Bool)} {ho : List Nat} (n : Nd h os ho) : Nd h.told os ho :=
  ⟨n.room, n.l, n.few, n.nn, n.tl, n.hol, n.held, n.who, n.nodup, n.empty, n.gens, n.t2, rfl, n.frames, n.cnt⟩

theorem countOf_len (l : List Ob) : countOf l ≤ (l.length : Int) := by
  induction l with
  | nil => simp [countOf]
  | cons x l ih => simp only [countOf, List.length_cons]; split <;> omega

theorem Nd.toldOK {h : H} {os : List (Int × Bool)} {ho : List Nat} (n : Nd h os ho) : h.toldOK := by
  unfold H.toldOK
  have := countOf_len h.l
  rw [n.ended]; simpa using this

/-- No more names than have ended. -/
def fewE (os : List (Int × Bool)) (en : List Int) : Prop := (en.length : Int) + countOf (⟨[1, 2, 2], [5, 0, 0], 0, -1, true⟩ :: os.map nob2) ≤ (os.length : Int) + 1
theorem Ne.toldOK {h : H} {os : List (Int × Bool)} {ho : List Nat} {f : Nat} {en : List Int} (n : Ne h os ho f en) (hf : fewE os en) : h.toldOK := by
  unfold H.toldOK
  unfold fewE at hf
  rw [n.l, n.ended, List.length_cons, List.length_map]
  push_cast
  exact hf
theorem Ne.fewO {h : H} {os : List (Int × Bool)} {ho : List Nat} {f : Nat} {en : List Int} (n : Ne h os ho f en) (ht : h.toldOK) : fewE os en := by
  unfold H.toldOK at ht
  unfold fewE
  rw [n.l, n.ended, List.length_cons, List.length_map] at ht
  push_cast at ht
  exact ht
theorem few_nil {os : List (Int × Bool)} {en : List Int} (h : fewE os en) : fewE os [] := by unfold fewE at *; simp only [List.length_nil]; omega

theorem namesB_len (os : List (Int × Bool)) : (namesB true os).length + (namesB false os).length = os.length := by
  induction os with
  | nil => rfl
  | cons x os ih => 
    simp only [namesB, List.length_append, List.length_cons]
    cases x.2 <;> simp <;> omega

/-- The handles of the held ones. -/
def hands (h : H) (n : Nat) : List Int := (List.range n).map fun (i : Nat) => 1 + 4 * (i : Int) + 256 * (h.sl 1 i).gen
theorem hands_len (h : H) (n : Nat) : (hands h n).length = n := by simp [hands]
theorem hands_at (h : H) (n i : Nat) (hi : i < n) : (hands h n).getD i 0 = 1 + 4 * (i : Int) + 256 * (h.sl 1 i).gen := by
  simp [hands, List.getD_eq_getElem?_getD, hi]
theorem hands_same {h h' : H} {n : Nat} (e : ∀ i, i < n → h'.sl 1 i = h.sl 1 i) : hands h' n = hands h n := by
  unfold hands
  apply List.map_congr_left
  intro i hi
  rw [e i (List.mem_range.1 hi)]
theorem hands_succ (h : H) (n : Nat) : hands h (n + 1) = hands h n ++ [1 + 4 * (n : Int) + 256 * (h.sl 1 n).gen] := by
  unfold hands
  rw [List.range_succ, List.map_append]; rfl
end Tm
open Go.RowKit
open Tm (H Ob Sl Why)

theorem Hp.less {R : (Nat → Prop) → World → Nat → H → Prop} {N : Nat} {A : Nat → Addr} {B : Nat} {w0 w : World} {T T' : Nat → Prop} {p : Nat} {h : H} (x : Hp R N A B w0 T w p h) (hT : ∀ b, T' b → T b) : Hp R N A B w0 T' w p h := by
  obtain ⟨S, hr, hS⟩ := x.at'
  exact ⟨⟨S, hr, fun b hb => ⟨(hS b hb).1, fun t => (hS b hb).2 (hT b t)⟩⟩, x.errs, x.le, x.below, fun b t => x.lt b (hT b t), fun b t => x.tb b (hT b t)⟩

theorem alike_n (w : World) (p q : Option Addr) (c d : Nat) (l : List Int) (n m : Nat) (hn : l.length = n) (hm : l.length = m) (hl : l.length < 4398046511104) (h1 : Seen w p l) (h2 : Seen w q l) :
    Calls Tryz.prog 33 #[.slice p n c, .slice q m d] w fun e w' => e = .returned (.bool true) ∧ Below w.heap.size w w' ∧ w'.heap = w.heap := by
  subst hn; subst hm; exact alike_same w p q c d l hl h1 h2

theorem IRow.bare {B : Nat} {w : World} {c : Nat} {l : List Int} (h : IRow B w none c l) : l = [] ∧ c = 0 := by
  obtain ⟨hl, ⟨e, _⟩ | ⟨g, cap', cur, e, _⟩⟩ := h
  · simp only [Value.slice.injEq, true_and] at e
    exact ⟨List.eq_nil_of_length_eq_zero e.1, e.2⟩
  · simp at e

theorem wpList_append_ints_none (w : World) {ops : Array Oper} {rest : List Oper} {o : Oper} {a : Act} {Q : Exit → Act → World → Prop} (hgd : o.guard = none) (s x : Operand)
    (ho : o.op = .call { callee := .builtin .append, args := #[s, x], argTypes := #[24, 24] })
    (base : Nat) (p : Option Addr) (cap : Nat) (zs : List Int) (n : Nat) (hn : n = zs.length) (hs : a.eval s = .slice p n cap) (hown : IRow base w p cap zs)
    (m c : Nat) (hm : m = 0) (hc : c = 0) (hx : a.eval x = .slice none m c)
    (h : wpList Tryz.prog ops Q rest (a.put o.dst (.slice p n cap)) w) : wpList Tryz.prog ops Q (o :: rest) a w := by
  subst hn; subst hm; subst hc
  obtain ⟨i3, hi3, _⟩ := info_parts info3
  exact wpList_append_own_none hgd s x 24 ho base 3 i3 1 Tryz.underlying24 hi3 _ _ _ hs hown hx h

/-- Named's lists. -/
def nL (pe : Option Addr) (ce : Nat) (le : List Int) (pl : Option Addr) (cl : Nat) (ll : List Int) (ph : Option Addr) (ch : Nat) (lh : List Int) : List RowL := [⟨pe, ce, le⟩, ⟨pl, cl, ll⟩, ⟨ph, ch, lh⟩]

/-- A heap of Named's, and its lists. -/
def Nst (R : (Nat → Prop) → World → Nat → H → Prop) (N : Nat) (A : Nat → Addr) (w0 : World) (L : List RowL) (w : World) (p : Nat) (h : H) : Prop := Hp R N A w0.heap.size w0 (ownL L) w p h ∧ Lists w0.heap.size w L

section
variable {R : (Nat → Prop) → World → Nat → H → Prop} {N : Nat} {A : Nat → Addr} {w0 w w' : World} {p : Nat} {h h' : H} {L : List RowL}

theorem Nst.size (x : Nst R N A w0 L w p h) : w0.heap.size ≤ w.heap.size := x.1.size (Nat.le_refl _)
theorem Nst.call (x : Nst R N A w0 L w p h) (y : Hp R N A w0.heap.size w0 (ownL L) w' p h') (hk : ∀ b, ownL L b → w'.heap[b]? = w.heap[b]?) : Nst R N A w0 L w' p h' := ⟨y, x.2.kept hk⟩
theorem Nst.dn (ok : ROK R) (x : Nst R N A w0 L w p h) (hb : Below w.heap.size w w') : Nst R N A w0 L w' p h :=
  ⟨x.1.grow ok x.size hb, x.2.kept (fun b hb' => hb.block b (x.2.lt hb').2)⟩
theorem Nst.app (ok : ROK R) {L1 L2 : List RowL} {r : RowL} (x : Nst R N A w0 (L1 ++ r :: L2) w p h) (o : Obj) {n : Nat} {p' : Option Addr} {c' : Nat} {l' : List Int} (hr : IRow w0.heap.size w' p' c' l')
    (gr : (w.alloc o).grownBy w' (Value.slice r.p n r.c).ownBlock) (loc : ∀ a', p' = some a' → (∃ b, r.p = some b ∧ b.block = a'.block) ∨ a'.block = w.heap.size + 1) : Nst R N A w0 (L1 ++ ⟨p', c', l'⟩ :: L2) w' p h :=
  x.1.app ok x.size x.2 (Below.alloc0 w o) hr ⟨gr, fun a' ha' => (loc a' ha').imp id (fun e => by simpa using e)⟩
theorem Nst.row {L1 L2 : List RowL} {r : RowL} (x : Nst R N A w0 (L1 ++ r :: L2) w p h) (o : Obj) : IRow w0.heap.size (w.alloc o) r.p r.c r.l :=
  (x.2.row r (by simp)).block (fun a ha => (Below.alloc0 w o).block _ (x.2.lt ⟨r, by simp, a, ha, rfl⟩).2)
end
end Go.Proofs.YtcnmfljpmpgnjaaGreatDoor

namespace Go.Proofs.YtcnmfljpmpgnjaaGreatDoor
open Go.RowKit
open Tm (H Ob Sl Why)

section
variable {R : (Nat → Prop) → World → Nat → H → Prop} {N : Nat} {A : Nat → Addr}

theorem one_new (w : World) (x : Int) : ∀ i, i < 1 → (w.alloc (.cells #[.int .i64 x] 3)).cell? ((⟨w.heap.size, 0, none⟩ : Addr).add i) = some (.int .i64 (([x] : List Int).getD i 0)) := fun i hi => by
  obtain rfl : i = 0 := by omega
  rw [Addr.add_lit, World.cell?_alloc_at _ _ _ _ (by simp)]; rfl

/-- Behind Named's first loop. -/
def NPost (R : (Nat → Prop) → World → Nat → H → Prop) (N : Nat) (A : Nat → Addr) (w0 : World) (p i : Nat) (ev lv hv : Value) (w : World) : Prop :=
  ∃ (hh : H) (os : List (Int × Bool)) (ho : List Nat) (pe : Option Addr) (ce : Nat) (pl : Option Addr) (cl : Nat) (ph : Option Addr) (ch : Nat), os.length = i ∧ ev = .slice pe (Tm.namesB false os).length ce ∧ lv = .slice pl (Tm.namesB true os).length cl ∧ hv = .slice ph ho.length ch ∧ Tm.Nd hh os ho ∧ Nst R N A w0 (nL pe ce (Tm.namesB false os) pl cl (Tm.namesB true os) ph ch (Tm.hands hh ho.length)) w p hh

set_option maxRecDepth 100000 in
set_option maxHeartbeats 8000000 in
theorem knamed_any (K : ProgOK R N A) (KN : NewOK R N A) (w : World) (hE : Errs N A w) (pn pb : Option Addr) (cn cb : Nat) (ns : List Int) (bs : List Bool) (pause : Int)
    (hns : 0 < ns.length → ∃ g o, pn = some ⟨g, o, none⟩ ∧ g < w.heap.size ∧ ∀ i, i < ns.length → w.cell? ⟨g, o + i, none⟩ = some (.int .i64 (ns.getD i 0)))
    (hnr : ∀ i, i < ns.length → -9223372036854775808 ≤ ns.getD i 0 ∧ ns.getD i 0 ≤ 9223372036854775807)
    (hbs : 0 < bs.length → ∃ g o, pb = some ⟨g, o, none⟩ ∧ g < w.heap.size ∧ ∀ i, i < bs.length → w.cell? ⟨g, o + i, none⟩ = some (.bool (bs.getD i false)))
    (hp1 : -9223372036854775808 ≤ pause) (hp2 : pause ≤ 9223372036854775807) :
    Calls Tryz.prog 9 #[.slice pn ns.length cn, .slice pb bs.length cb, .int .i64 pause] w fun e w' => e = .returned (.bool true) ∧ Below w.heap.size w w' := by
  have HK := hide K
  have HNs := hide hns
  have HNr := hide hnr
  have HBs := hide hbs
  have HPp := fun w' => hide (kpick_is pause 2 w' (by omega) (by omega) hp1 hp2)
  have hpk := pickN_lt pause 2 (by omega)
  generalize pickN pause 2 = pk at *
  have HBg := hide (begun_any K KN w hE)
  clear K KN hE hns hnr hbs hp1 hp2
  go_enter Tryz.func9, Tryz.ntmps9
  go_wp2_with fail
  refine HBg.out.mono ?_
  rintro e w1 ⟨p, rfl, xb⟩
  have HS1 : Hid (Nst R N A w (nL none 0 [] none 0 [] none 0 []) w1 p Tm.b4) := by
    refine ⟨xb.less (fun b hb => ?_), fun x hx => ?_, ?_⟩
    · obtain ⟨x, hx, a, ha, _⟩ := hb
      simp only [nL, List.mem_cons, List.not_mem_nil, or_false] at hx
      rcases hx with rfl | rfl | rfl <;> cases ha
    · simp only [nL, List.mem_cons, List.not_mem_nil, or_false] at hx
      rcases hx with rfl | rfl | rfl <;> exact IRow.nil _ _
    · unfold nL
      simp
  clear xb HBg
  go_wp2_with fail
  go_loopw [8, 9, 10, 11, 12, 13, 14] (fun ev lv hv iv _ _ _ w' => ∃ i : Nat, i ≤ ns.length ∧ i ≤ 12 ∧ iv = .int .i64 i ∧ NPost R N A w p i ev lv hv w') (fun _ _ _ iv _ _ _ _ => 12 - (intOf iv).toNat)
  case atStart => exact ⟨0, by omega, by omega, rfl, Tm.b4, [], [], none, 0, none, 0, none, 0, rfl, rfl, rfl, rfl, Tm.Nd.b4, HS1.out⟩
  case round =>
    obtain ⟨i, hi1, hi2, rfl, hh, os, ho, pe, ce, pl, cl, ph, ch, hos, rfl, rfl, rfl, nd, st⟩ := hrel
    have HNd := hide nd
    have HSt := hide st
    have hnb := Tm.namesB_len os
    have hol := nd.hol
    by_cases hgo : i < ns.length ∧ i < 12
    · have b1 : (i : Int) < (ns.length : Int) := by omega
      have b2 : (i : Int) < 12 := by omega
      obtain ⟨g, o, rfl, hg1, hg2⟩ := HNs.out (by omega)
      have ci : wr.cell? ⟨g, o + i, none⟩ = some (.int .i64 (ns.getD i 0)) := by rw [st.1.below.cell (by show g < _; exact hg1)]; exact hg2 i hgo.1
      obtain ⟨hr1, hr2⟩ := HNr.out i hgo.1
      generalize ns.getD i 0 = nv at *
      have HPn := fun w' => hide (kpick_is nv 1000000001 w' (by omega) (by omega) hr1 hr2)
      have hpn := pickN_lt nv 1000000001 (by omega)
      generalize pickN nv 1000000001 = x at *
      obtain ⟨M, hM⟩ := Tm.marked_exists hh
      have hex := nd.extern (by omega) M (x : Int) (by omega)
      have hcall := st.1.extern HK.out st.size hM (by rw [nd.len]; omega) (x : Int)
      rw [hex] at hcall
      have HCall := hide hcall
      have hgen := nd.gens ho.length
      obtain ⟨h', hf1, hf2, hf3⟩ := nd.let (by omega) (x : Int) (by omega)
      have hho := nd.hold (by omega) (x : Int) (by omega)
      have e1 : Tm.hands ((hh.grown [] (x : Int)).setSl 1 ho.length ⟨(hh.sl 1 ho.length).gen + 1, (os.length : Int) + 2, 1⟩) ho.length = Tm.hands hh ho.length := Tm.hands_same (fun j hj => by
        rw [Tm.sl_setSl (hh.grown [] (x : Int)) 1 ho.length 1 j _ (by show ho.length < (hh.t 1).length; rw [nd.tl]; omega), if_neg (fun q => by omega)]; rfl)
      have e2 : (((hh.grown [] (x : Int)).setSl 1 ho.length ⟨(hh.sl 1 ho.length).gen + 1, (os.length : Int) + 2, 1⟩).sl 1 ho.length).gen = (hh.sl 1 ho.length).gen + 1 := by
        rw [Tm.sl_setSl (hh.grown [] (x : Int)) 1 ho.length 1 ho.length _ (by show ho.length < (hh.t 1).length; rw [nd.tl]; omega), if_pos ⟨rfl, rfl⟩]
      generalize ((hh.grown [] (x : Int)).setSl 1 ho.length ⟨(hh.sl 1 ho.length).gen + 1, (os.length : Int) + 2, 1⟩) = h1 at *
      have HF1 := hide hf1
      have HF2 := hide hf2
      have HF3 := hide hf3
      have HHo := hide hho
      have HE1 := hide e1
      have HE2 := hide e2
      have hzb : 1 + 4 * (ho.length : Int) + 256 * ((hh.sl 1 ho.length).gen + 1) < 9223372036854775808 := by omega
      obtain ⟨z, ez⟩ : ∃ z, 1 + 4 * (ho.length : Int) + 256 * ((hh.sl 1 ho.length).gen + 1) = z := ⟨_, rfl⟩
      rw [ez] at HF1 HCall hzb
      have HEz := hide ez
      clear nd st hcall hex hM hf1 hf2 hf3 hho e1 e2 ez hg2 hgen
      by_cases hold : i < bs.length ∧ bs.getD i false = true
      · have b3 : (i : Int) < (bs.length : Int) := by omega
        obtain ⟨g2, o2, rfl, hg3, hg4⟩ := HBs.out (by omega)
        have HCb : Hid (∀ W, Below w.heap.size w W → W.cell? ⟨g2, o2 + i, none⟩ = some (.bool true)) := fun W hW => by rw [hW.cell (by show g2 < _; exact hg3), hg4 i hold.1, hold.2]
        clear hg4
        go_wp2_with fail
        refine ((HPn _).out).mono ?_
        rintro e w9 ⟨rfl, h9⟩
        rw [h9]
        clear h9
        go_wp2_with fail
        refine HCall.out.mono ?_
        rintro e w3 ⟨ev, rfl, he, x3, _, hk3⟩
        obtain rfl := he.nil rfl
        have st3 := HSt.out.call x3 hk3
        have HS3 := hide st3
        have cb := HCb.out w3 x3.below
        have hz3 := st3.size
        clear he x3 hk3 st3 HCall
        go_wp2_with (first
          | (at_builtin; refine wpList_append_ints _ rfl _ _ rfl w.heap.size pl cl (Tm.namesB true os) _ rfl rfl (HS3.out.row (L1 := [_]) (L2 := [_]) _) ⟨w3.heap.size, 0, none⟩ 1 1 [(x : Int)] rfl rfl (one_new w3 _) (by omega) (by simp; omega) ?_)
          | fail)
        intro p4 c4 w4 hr4 hg4 hn4 hl4
        have st4 := HS3.out.app (L1 := [_]) (L2 := [_]) HK.out.ok _ hr4 hg4 hl4
        have HS4 := hide st4
        have hz4 := st4.size
        have hlh := Tm.hands_len hh ho.length
        clear hr4 hg4 hn4 hl4 st4
        go_wp2_with (first
          | (at_builtin; refine wpList_append_ints _ rfl _ _ rfl w.heap.size ph ch (Tm.hands hh ho.length) ho.length hlh.symm rfl (HS4.out.row (L1 := [_, _]) (L2 := []) _) ⟨w4.heap.size, 0, none⟩ 1 1 [z] rfl rfl (one_new w4 _) (by omega) (by simp; omega) ?_)
          | fail)
        intro p5 c5 w5 hr5 hg5 hn5 hl5
        have st5 := HS4.out.app (L1 := [_, _]) (L2 := []) HK.out.ok _ hr5 hg5 hl5
        have HS5 := hide st5
        clear hr5 hg5 hn5 hl5 st5
        go_wp2_with fail
        go_roundw
        case rel =>
          have q1 : Tm.namesB false (os ++ [((x : Int), true)]) = Tm.namesB false os := by rw [Tm.namesB_snoc, if_neg (by simp), List.append_nil]
          have q2 : Tm.namesB true (os ++ [((x : Int), true)]) = Tm.namesB true os ++ [(x : Int)] := by rw [Tm.namesB_snoc, if_pos rfl]
          have q3 : Tm.hands h1 (ho ++ [os.length]).length = Tm.hands hh ho.length ++ [z] := by
            rw [show (ho ++ [os.length]).length = ho.length + 1 from by simp, Tm.hands_succ, HE1.out, HE2.out, HEz.out]
          exact ⟨i + 1, by omega, by omega, by go_num, h1, os ++ [((x : Int), true)], ho ++ [os.length], pe, ce, p4, c4, p5, c5, by simp [hos], by rw [q1], by rw [q2]; simp, by simp, HHo.out, by rw [q1, q2, q3]; exact HS5.out⟩
        case measure => simp [intOf]; omega
      · have hb3 : ¬ (i : Int) < (bs.length : Int) ∨ ((i : Int) < (bs.length : Int) ∧ ∃ g2 o2, pb = some ⟨g2, o2, none⟩ ∧ Hid (∀ W, Below w.heap.size w W → W.cell? ⟨g2, o2 + i, none⟩ = some (.bool false))) := by
          by_cases q : i < bs.length
          · obtain ⟨g2, o2, e, hg3, hg4⟩ := HBs.out (by omega)
            refine Or.inr ⟨by omega, g2, o2, e, fun W hW => ?_⟩
            rw [hW.cell (by show g2 < _; exact hg3), hg4 i q]
            cases hb : bs.getD i false
            · rfl
            · exact absurd ⟨q, hb⟩ hold
          · exact Or.inl (by omega)
        clear hold
        rcases hb3 with b3 | ⟨b3, g2, o2, rfl, HCb⟩
        · go_wp2_with fail
          refine ((HPn _).out).mono ?_
          rintro e w9 ⟨rfl, h9⟩
          rw [h9]
          clear h9
          go_wp2_with fail
          refine HCall.out.mono ?_
          rintro e w3 ⟨ev, rfl, he, x3, _, hk3⟩
          obtain rfl := he.nil rfl
          have st3 := HSt.out.call x3 hk3
          have HS3 := hide st3
          have hz3 := st3.size
          clear he x3 hk3 st3 HCall
          go_wp2_with (first
            | (at_builtin; refine wpList_append_ints _ rfl _ _ rfl w.heap.size pe ce (Tm.namesB false os) _ rfl rfl (HS3.out.row (L1 := []) (L2 := [_, _]) _) ⟨w3.heap.size, 0, none⟩ 1 1 [(x : Int)] rfl rfl (one_new w3 _) (by omega) (by simp; omega) ?_)
            | fail)
          intro p4 c4 w4 hr4 hg4 hn4 hl4
          have st4 := HS3.out.app (L1 := []) (L2 := [_, _]) HK.out.ok _ hr4 hg4 hl4
          have HS4 := hide st4
          have hfr := st4.1.free HK.out st4.size z hzb
          rw [HF1.out] at hfr
          have HFr := hide hfr
          clear hr4 hg4 hn4 hl4 st4 hfr
          go_wp2_with fail
          refine HFr.out.mono ?_
          rintro e w5 ⟨ev, rfl, he, x5, _, hk5⟩
          obtain rfl := he.nil rfl
          have HS5 := hide (HS4.out.call x5 hk5)
          clear he x5 hk5 HFr
          go_wp2_with fail
          go_roundw
          case rel =>
            have q1 : Tm.namesB false (os ++ [((x : Int), false)]) = Tm.namesB false os ++ [(x : Int)] := by rw [Tm.namesB_snoc, if_pos rfl]
            have q2 : Tm.namesB true (os ++ [((x : Int), false)]) = Tm.namesB true os := by rw [Tm.namesB_snoc, if_neg (by simp), List.append_nil]
            have q3 : Tm.hands h' ho.length = Tm.hands hh ho.length := Tm.hands_same HF3.out
            exact ⟨i + 1, by omega, by omega, by go_num, h', os ++ [((x : Int), false)], ho, p4, c4, pl, cl, ph, ch, by simp [hos], by rw [q1]; simp, by rw [q2], rfl, HF2.out, by rw [q1, q2, q3]; exact HS5.out⟩
          case measure => simp [intOf]; omega
        · go_wp2_with fail
          refine ((HPn _).out).mono ?_
          rintro e w9 ⟨rfl, h9⟩
          rw [h9]
          clear h9
          go_wp2_with fail
          refine HCall.out.mono ?_
          rintro e w3 ⟨ev, rfl, he, x3, _, hk3⟩
          obtain rfl := he.nil rfl
          have st3 := HSt.out.call x3 hk3
          have HS3 := hide st3
          have cb := HCb.out w3 x3.below
          have hz3 := st3.size
          clear he x3 hk3 st3 HCall
          go_wp2_with (first
            | (at_builtin; refine wpList_append_ints _ rfl _ _ rfl w.heap.size pe ce (Tm.namesB false os) _ rfl rfl (HS3.out.row (L1 := []) (L2 := [_, _]) _) ⟨w3.heap.size, 0, none⟩ 1 1 [(x : Int)] rfl rfl (one_new w3 _) (by omega) (by simp; omega) ?_)
            | fail)
          intro p4 c4 w4 hr4 hg4 hn4 hl4
          have st4 := HS3.out.app (L1 := []) (L2 := [_, _]) HK.out.ok _ hr4 hg4 hl4
          have HS4 := hide st4
          have hfr := st4.1.free HK.out st4.size z hzb
          rw [HF1.out] at hfr
          have HFr := hide hfr
          clear hr4 hg4 hn4 hl4 st4 hfr
          go_wp2_with fail
          refine HFr.out.mono ?_
          rintro e w5 ⟨ev, rfl, he, x5, _, hk5⟩
          obtain rfl := he.nil rfl
          have HS5 := hide (HS4.out.call x5 hk5)
          clear he x5 hk5 HFr
          go_wp2_with fail
          go_roundw
          case rel =>
            have q1 : Tm.namesB false (os ++ [((x : Int), false)]) = Tm.namesB false os ++ [(x : Int)] := by rw [Tm.namesB_snoc, if_pos rfl]
            have q2 : Tm.namesB true (os ++ [((x : Int), false)]) = Tm.namesB true os := by rw [Tm.namesB_snoc, if_neg (by simp), List.append_nil]
            have q3 : Tm.hands h' ho.length = Tm.hands hh ho.length := Tm.hands_same HF3.out
            exact ⟨i + 1, by omega, by omega, by go_num, h', os ++ [((x : Int), false)], ho, p4, c4, pl, cl, ph, ch, by simp [hos], by rw [q1]; simp, by rw [q2], rfl, HF2.out, by rw [q1, q2, q3]; exact HS5.out⟩
          case measure => simp [intOf]; omega
    · have hif : ¬ (i : Int) < (ns.length : Int) ∨ ((i : Int) < (ns.length : Int) ∧ ¬ (i : Int) < 12) := by omega
      have hlh := Tm.hands_len hh ho.length
      have hsl : ∀ M k j, (hh.told.collTo M hh.told.l.length).sl k j = hh.sl k j := fun M k j => by
        unfold H.sl; rw [(Tm.collTo_same hh.told M hh.told.l.length).1]; rfl
      have HSl := hide hsl
      have hen := st.1.ended HK.out st.size nd.toldOK
      rw [nd.ended] at hen
      have HEn := hide hen
      have HN2 := hide nd.told
      have hcm : os.length ≤ 12 := nd.few
      clear nd st hen hsl
      generalize hh.told = h2 at *
      rcases hif with b1 | ⟨b1, b2⟩
      all_goals
        go_wp2_with fail
        refine HEn.out.mono ?_
        rintro e w2 ⟨q2, c2, rfl, _, ⟨_, x2⟩, _, hk2⟩
        obtain ⟨M, hM⟩ := Tm.marked_exists h2
        have st2 : Nst R N A w (nL pe ce (Tm.namesB false os) pl cl (Tm.namesB true os) ph ch (Tm.hands hh ho.length)) w2 p h2 := HSt.out.call (x2.less (fun b hb => Or.inl hb)) hk2
        have hco := st2.1.collect HK.out st2.size hM
        have HS2 := hide st2
        have HCo := hide hco
        have ne3 := HN2.out.coll hM
        have HT3 : Hid (h2.collTo M h2.l.length).toldOK := Tm.collTo_told HN2.out.toldOK M _ (Nat.le_refl _)
        have HNe := hide ne3
        have hsl := HSl.out M
        have HSl3 := hide hsl
        clear x2 hk2 st2 hco ne3 hM HEn HSl hsl
        generalize h2.collTo M h2.l.length = h3 at *
        generalize h2.collNum M h2.l.length = cnum at *
        go_wp2_with fail
        refine HCo.out.mono ?_
        rintro e w3 ⟨rfl, x3, _, hk3⟩
        have st3 := HS2.out.call x3 hk3
        have HS3 := hide st3
        have hen3 := st3.1.ended HK.out st3.size HT3.out
        rw [HNe.out.ended] at hen3
        have HEn3 := hide hen3
        have HFe := hide (HNe.out.fewO HT3.out)
        clear x3 hk3 st3 hen3 HCo HS2
        go_wp2_with fail
        refine ((HPp _).out).mono ?_
        rintro e w9 ⟨rfl, h9⟩
        rw [h9]
        clear h9
        by_cases hp0 : pk = 0
        · have bp : (pk : Int) = 0 := by omega
          go_wp2_with fail
          refine HEn3.out.mono ?_
          rintro e w4 ⟨q4, c4, rfl, sn4, ⟨_, x4⟩, _, hk4⟩
          have st4 : Nst R N A w (nL pe ce (Tm.namesB false os) pl cl (Tm.namesB true os) ph ch (Tm.hands hh ho.length)) w4 p h3.told := HS3.out.call (x4.less (fun b hb => Or.inl hb)) hk4
          have HS4 := hide st4
          have HAl := hide (alike_same w4 q4 pe c4 ce (Tm.namesB false os) (by omega) sn4 (st4.2.row ⟨pe, ce, Tm.namesB false os⟩ (by simp [nL])).seen)
          clear sn4 x4 hk4 st4 HEn3
          go_wp2_with fail
          refine HAl.out.mono ?_
          rintro e w5 ⟨rfl, hb5, _⟩
          have st5 := HS4.out.dn HK.out.ok hb5
          have HS5 : Hid (Nst R N A w (nL none 0 [] pl cl (Tm.namesB true os) ph ch (Tm.hands hh ho.length)) w5 p h3.told) := by
            refine ⟨st5.1.less (fun b hb => ?_), fun x hx => ?_, ?_⟩
            · obtain ⟨x, hx, a, ha, e⟩ := hb
              simp only [nL, List.mem_cons, List.not_mem_nil, or_false] at hx
              rcases hx with rfl | rfl | rfl
              · cases ha
              · exact ⟨_, by simp [nL], a, ha, e⟩
              · exact ⟨_, by simp [nL], a, ha, e⟩
            · simp only [nL, List.mem_cons, List.not_mem_nil, or_false] at hx
              rcases hx with rfl | rfl | rfl
              · exact IRow.nil _ _
              · exact st5.2.row _ (by simp [nL])
              · exact st5.2.row _ (by simp [nL])
            · have h9 := st5.2.apart
              unfold nL at h9 ⊢
              simp only [List.pairwise_cons] at h9 ⊢
              exact ⟨(fun _ _ _ _ ha => by cases ha), h9.2⟩
          have HN5 := hide HNe.out.told
          have HF5 := hide (Tm.few_nil HFe.out)
          have HSl5 : Hid (∀ k j, h3.told.sl k j = hh.sl k j) := fun k j => HSl3.out k j
          clear hb5 st5 HS4 HAl HS3 HNe HFe HSl3 HT3
          generalize h3.told = h5 at *
          go_wp2_with fail
          go_loopw [18, 19] (fun fv _ w' => ∃ (f : Nat) (h6 : H), fv = .int .i64 f ∧ Tm.Ne h6 os ho f ([] : List Int) ∧ (∀ j, f ≤ j → h6.sl 1 j = hh.sl 1 j) ∧ Nst R N A w (nL (none : Option Addr) 0 ([] : List Int) pl cl (Tm.namesB true os) ph ch (Tm.hands hh ho.length)) w' p h6) (fun fv _ _ => ho.length - (intOf fv).toNat)
          case atStart => exact ⟨0, h5, rfl, HN5.out, fun j _ => HSl5.out 1 j, HS5.out⟩
          case round =>
            obtain ⟨f, h6, rfl, ne6, sl6, st6⟩ := hrel
            have HN6 := hide ne6
            have HS6 := hide st6
            have HL6 := hide sl6
            have hfl := ne6.fl
            by_cases hf : f < ho.length
            · have bf : (f : Int) < (ho.length : Int) := by omega
              obtain ⟨g, eg, _, hc⟩ := (st6.2.row ⟨ph, ch, Tm.hands hh ho.length⟩ (by simp [nL])).seen (by simp only [hlh]; omega)
              simp only at eg
              subst eg
              have cf : wr.cell? ⟨g, f, none⟩ = some (.int .i64 ((Tm.hands hh ho.length).getD f 0)) := hc f (by simp only [hlh]; omega)
              rw [Tm.hands_at _ _ _ hf, ← sl6 f (Nat.le_refl _)] at cf
              have hgn := ne6.gens f
              obtain ⟨h8, ef, ne8, sl8⟩ := ne6.free hf
              have hzb : 1 + 4 * (f : Int) + 256 * (h6.sl 1 f).gen < 9223372036854775808 := by omega
              generalize 1 + 4 * (f : Int) + 256 * (h6.sl 1 f).gen = z at *
              have hfr := st6.1.free HK.out st6.size z hzb
              rw [ef] at hfr
              have HFr := hide hfr
              have HN8 := hide ne8
              have HL8 : Hid (∀ j, f + 1 ≤ j → h8.sl 1 j = hh.sl 1 j) := fun j hj => by rw [sl8 j (by omega)]; exact HL6.out j (by omega)
              clear ne6 sl6 st6 hc hfr ef ne8 sl8 hgn
              go_wp2_with fail
              refine HFr.out.mono ?_
              rintro e w8 ⟨ev, rfl, he, x8, _, hk8⟩
              obtain rfl := he.nil rfl
              have HS8 := hide (HS6.out.call x8 hk8)
              clear he x8 hk8 HFr
              go_wp2_with fail
              go_roundw
              case rel => exact ⟨f + 1, h8, by go_num, HN8.out, HL8.out, HS8.out⟩
              case measure => simp [intOf]; omega
            · have bf : ¬ (f : Int) < (ho.length : Int) := by omega
              obtain rfl : f = ho.length := by omega
              obtain ⟨M6, hM6⟩ := Tm.marked_exists h6
              obtain ⟨hn7, he7⟩ := ne6.coll hM6
              have hco := st6.1.collect HK.out st6.size hM6
              rw [hn7] at hco
              have HC7 := hide hco
              have HE7 := hide he7
              have HT7 : Hid (h6.collTo M6 h6.l.length).toldOK := Tm.collTo_told (ne6.toldOK HF5.out) M6 _ (Nat.le_refl _)
              clear ne6 sl6 st6 hn7 he7 hco hM6
              generalize h6.collTo M6 h6.l.length = h7 at *
              go_wp2_with fail
              refine HC7.out.mono ?_
              rintro e w7 ⟨rfl, x7, _, hk7⟩
              have st7 := HS6.out.call x7 hk7
              have HS7 := hide st7
              have hen8 := st7.1.ended HK.out st7.size HT7.out
              rw [HE7.out] at hen8
              have HEn8 := hide hen8
              clear x7 hk7 st7 hen8 HC7
              go_wp2_with fail
              refine HEn8.out.mono ?_
              rintro e w8 ⟨q8, c8, rfl, sn8, ⟨hq8, x8⟩, hz8, hk8⟩
              have hen9 := x8.ended HK.out (x8.size (Nat.le_refl _)) (toldOK_of HT7.out (Nat.zero_le _) rfl rfl)
              rw [show h7.told.ended = [] from rfl] at hen9
              have HEn9 := hide hen9
              have HL8 := hide (HS7.out.2.kept hk8)
              have HSn8 := hide sn8
              have HQ8 := hide hq8
              clear sn8 hq8 x8 hz8 hk8 hen9 HEn8
              go_wp2_with fail
              refine HEn9.out.mono ?_
              rintro e w9 ⟨q9, c9, rfl, _, ⟨_, x9⟩, hz9, hk9⟩
              have ls9 := HL8.out.kept (fun b hb => hk9 b (Or.inl hb))
              have sn9 : Seen w9 q8 (([] : List Int) ++ Tm.namesB true os) := HSn8.out.kept (fun h0 g e _ => hk9 g (Or.inr ⟨h0, _, e, rfl⟩)) hz9
              have be9 := x9.below
              have re := ls9.row ⟨(none : Option Addr), 0, ([] : List Int)⟩ (by simp [nL])
              have rl := ls9.row ⟨pl, cl, Tm.namesB true os⟩ (by simp [nL])
              have hown : ∀ a, (none : Option Addr) = some a → ownL (nL (none : Option Addr) 0 ([] : List Int) pl cl (Tm.namesB true os) ph ch (Tm.hands hh ho.length)) a.block := fun a ha => ⟨⟨(none : Option Addr), 0, ([] : List Int)⟩, by simp [nL], a, ha, rfl⟩
              have HOwn := hide hown
              have HSn9 := hide sn9
              have HB9 := hide be9
              have HRe := hide re
              have hsz := be9.size
              clear x9 hz9 hk9 ls9 sn9 be9 hown HEn9
              by_cases hpl : pl = none
              · subst hpl
                obtain ⟨e1, e2⟩ := rl.bare
                simp only at e1 e2
                have HL0 : Hid ((Tm.namesB true os).length = 0) := by show _ = _; rw [e1]; rfl
                have HE0 := hide e1
                have HC0 := hide e2
                have hl9 : (Tm.namesB false os).length + (Tm.namesB true os).length ≤ 12 := by omega
                have HL9 := hide hl9
                have HAl := hide (fun n m hn hm => alike_n w9 q8 (none : Option Addr) c8 0 (([] : List Int) ++ Tm.namesB true os) n m hn hm (by have := HL9.out; simp only [List.length_append, List.length_nil]; omega) HSn9.out (by rw [HE0.out, List.append_nil]; exact re.seen))
                clear re rl e1 e2 hl9
                go_wp2_with (first
                  | (at_builtin; refine wpList_append_ints_none _ rfl _ _ rfl w.heap.size (none : Option Addr) 0 ([] : List Int) _ rfl rfl HRe.out _ _ HL0.out HC0.out rfl ?_)
                  | fail)
                go_wp2_with fail
                refine Calls.mono (HAl.out _ _ ?_ ?_) ?_
                · simp
                · simp [HE0.out]
                rintro e w10 ⟨rfl, hb10, _⟩
                have HB10 : Hid (Below w.heap.size w w10) := HB9.out.trans (hb10.mono hsz)
                clear hb10 HAl
                go_wp2_with fail
                go_ret
                exact ⟨by rfl, HB10.out⟩
              · obtain ⟨gl, el, _, _, _, hcl, _⟩ := rl.at (Or.inr hpl)
                simp only at el hcl
                subst el
                clear rl re
                have HCl := hide hcl
                go_wp2_with (first
                  | (at_builtin; go_loud (refine wpList_append_ints _ rfl _ _ rfl w.heap.size (none : Option Addr) 0 ([] : List Int) _ rfl rfl HRe.out ⟨gl, 0, none⟩ (Tm.namesB true os).length cl (Tm.namesB true os) rfl rfl (fun i hi => by rw [Addr.add_lit, Nat.zero_add]; exact HCl.out i hi) (by first | omega | (simp only [List.length_nil]; omega)) hsz ?_))
                  | fail)
                intro p10 c10 w10 hr10 hg10 hl10
                have ap : AppL w9 w10 (none : Option Addr) 0 0 p10 := ⟨hg10, fun a' h => Or.inr (hl10 a' h)⟩
                have sn10 : Seen w10 q8 (([] : List Int) ++ Tm.namesB true os) := HSn9.out.kept (fun h0 g e hg => ap.off g hg (fun a ha q => (HQ8.out ⟨g, 0, none⟩ e h0).2 (by have := HOwn.out a ha; rw [q] at this; exact this))) hg10.size
                have HB10 : Hid (Below w.heap.size w w10) := below_own HB9.out (fun a ha => (HRe.out.lt ha).1) hg10
                have HAl := hide (fun n m hn hm => alike_n w10 q8 p10 c8 c10 (([] : List Int) ++ Tm.namesB true os) n m hn hm (by simp only [List.length_append, List.length_nil]; omega) sn10 hr10.seen)
                have hz10 := HB10.out.size
                clear hr10 hg10 hl10 ap sn10
                go_wp2_with fail
                refine Calls.mono (HAl.out _ _ ?_ ?_) ?_
                · simp
                · simp
                rintro e w11 ⟨rfl, hb11, _⟩
                have HB11 : Hid (Below w.heap.size w w11) := HB10.out.trans (hb11.mono hz10)
                clear hb11 HAl
                go_wp2_with fail
                go_ret
                exact ⟨by rfl, HB11.out⟩
        · obtain rfl : pk = 1 := by omega
          go_wp2_with fail
          have HN5 := hide HNe.out
          have HF5 := hide HFe.out
          have HSl5 := hide HSl3.out
          have HS5 := hide HS3.out
          clear HNe HFe HSl3 HT3 HS3 HEn3
          go_loopw [18, 19] (fun fv _ w' => ∃ (f : Nat) (h6 : H), fv = .int .i64 f ∧ Tm.Ne h6 os ho f (Tm.namesB false os) ∧ (∀ j, f ≤ j → h6.sl 1 j = hh.sl 1 j) ∧ Nst R N A w (nL pe ce (Tm.namesB false os) pl cl (Tm.namesB true os) ph ch (Tm.hands hh ho.length)) w' p h6) (fun fv _ _ => ho.length - (intOf fv).toNat)
          case atStart => exact ⟨0, h3, rfl, HN5.out, fun j _ => HSl5.out 1 j, HS5.out⟩
          case round =>
            obtain ⟨f, h6, rfl, ne6, sl6, st6⟩ := hrel
            have HN6 := hide ne6
            have HS6 := hide st6
            have HL6 := hide sl6
            have hfl := ne6.fl
            by_cases hf : f < ho.length
            · have bf : (f : Int) < (ho.length : Int) := by omega
              obtain ⟨g, eg, _, hc⟩ := (st6.2.row ⟨ph, ch, Tm.hands hh ho.length⟩ (by simp [nL])).seen (by simp only [hlh]; omega)
              simp only at eg
              subst eg
              have cf : wr.cell? ⟨g, f, none⟩ = some (.int .i64 ((Tm.hands hh ho.length).getD f 0)) := hc f (by simp only [hlh]; omega)
              rw [Tm.hands_at _ _ _ hf, ← sl6 f (Nat.le_refl _)] at cf
              have hgn := ne6.gens f
              obtain ⟨h8, ef, ne8, sl8⟩ := ne6.free hf
              have hzb : 1 + 4 * (f : Int) + 256 * (h6.sl 1 f).gen < 9223372036854775808 := by omega
              generalize 1 + 4 * (f : Int) + 256 * (h6.sl 1 f).gen = z at *
              have hfr := st6.1.free HK.out st6.size z hzb
              rw [ef] at hfr
              have HFr := hide hfr
              have HN8 := hide ne8
              have HL8 : Hid (∀ j, f + 1 ≤ j → h8.sl 1 j = hh.sl 1 j) := fun j hj => by rw [sl8 j (by omega)]; exact HL6.out j (by omega)
              clear ne6 sl6 st6 hc hfr ef ne8 sl8 hgn
              go_wp2_with fail
              refine HFr.out.mono ?_
              rintro e w8 ⟨ev, rfl, he, x8, _, hk8⟩
              obtain rfl := he.nil rfl
              have HS8 := hide (HS6.out.call x8 hk8)
              clear he x8 hk8 HFr
              go_wp2_with fail
              go_roundw
              case rel => exact ⟨f + 1, h8, by go_num, HN8.out, HL8.out, HS8.out⟩
              case measure => simp [intOf]; omega
            · have bf : ¬ (f : Int) < (ho.length : Int) := by omega
              obtain rfl : f = ho.length := by omega
              obtain ⟨M6, hM6⟩ := Tm.marked_exists h6
              obtain ⟨hn7, he7⟩ := ne6.coll hM6
              have hco := st6.1.collect HK.out st6.size hM6
              rw [hn7] at hco
              have HC7 := hide hco
              have HE7 := hide he7
              have HT7 : Hid (h6.collTo M6 h6.l.length).toldOK := Tm.collTo_told (ne6.toldOK HF5.out) M6 _ (Nat.le_refl _)
              clear ne6 sl6 st6 hn7 he7 hco hM6
              generalize h6.collTo M6 h6.l.length = h7 at *
              go_wp2_with fail
              refine HC7.out.mono ?_
              rintro e w7 ⟨rfl, x7, _, hk7⟩
              have st7 := HS6.out.call x7 hk7
              have HS7 := hide st7
              have hen8 := st7.1.ended HK.out st7.size HT7.out
              rw [HE7.out] at hen8
              have HEn8 := hide hen8
              clear x7 hk7 st7 hen8 HC7
              go_wp2_with fail
              refine HEn8.out.mono ?_
              rintro e w8 ⟨q8, c8, rfl, sn8, ⟨hq8, x8⟩, hz8, hk8⟩
              have hen9 := x8.ended HK.out (x8.size (Nat.le_refl _)) (toldOK_of HT7.out (Nat.zero_le _) rfl rfl)
              rw [show h7.told.ended = [] from rfl] at hen9
              have HEn9 := hide hen9
              have HL8 := hide (HS7.out.2.kept hk8)
              have HSn8 := hide sn8
              have HQ8 := hide hq8
              clear sn8 hq8 x8 hz8 hk8 hen9 HEn8
              go_wp2_with fail
              refine HEn9.out.mono ?_
              rintro e w9 ⟨q9, c9, rfl, _, ⟨_, x9⟩, hz9, hk9⟩
              have ls9 := HL8.out.kept (fun b hb => hk9 b (Or.inl hb))
              have sn9 : Seen w9 q8 ((Tm.namesB false os) ++ Tm.namesB true os) := HSn8.out.kept (fun h0 g e _ => hk9 g (Or.inr ⟨h0, _, e, rfl⟩)) hz9
              have be9 := x9.below
              have re := ls9.row ⟨pe, ce, (Tm.namesB false os)⟩ (by simp [nL])
              have rl := ls9.row ⟨pl, cl, Tm.namesB true os⟩ (by simp [nL])
              have hown : ∀ a, pe = some a → ownL (nL pe ce (Tm.namesB false os) pl cl (Tm.namesB true os) ph ch (Tm.hands hh ho.length)) a.block := fun a ha => ⟨⟨pe, ce, (Tm.namesB false os)⟩, by simp [nL], a, ha, rfl⟩
              have HOwn := hide hown
              have HSn9 := hide sn9
              have HB9 := hide be9
              have HRe := hide re
              have hsz := be9.size
              clear x9 hz9 hk9 ls9 sn9 be9 hown HEn9
              by_cases hpl : pl = none
              · subst hpl
                obtain ⟨e1, e2⟩ := rl.bare
                simp only at e1 e2
                have HL0 : Hid ((Tm.namesB true os).length = 0) := by show _ = _; rw [e1]; rfl
                have HE0 := hide e1
                have HC0 := hide e2
                have hl9 : (Tm.namesB false os).length + (Tm.namesB true os).length ≤ 12 := by omega
                have HL9 := hide hl9
                have HAl := hide (fun n m hn hm => alike_n w9 q8 pe c8 ce ((Tm.namesB false os) ++ Tm.namesB true os) n m hn hm (by have := HL9.out; simp only [List.length_append]; omega) HSn9.out (by rw [HE0.out, List.append_nil]; exact re.seen))
                clear re rl e1 e2 hl9
                go_wp2_with (first
                  | (at_builtin; refine wpList_append_ints_none _ rfl _ _ rfl w.heap.size pe ce (Tm.namesB false os) _ rfl rfl HRe.out _ _ HL0.out HC0.out rfl ?_)
                  | fail)
                go_wp2_with fail
                refine Calls.mono (HAl.out _ _ ?_ ?_) ?_
                · simp
                · simp [HE0.out]
                rintro e w10 ⟨rfl, hb10, _⟩
                have HB10 : Hid (Below w.heap.size w w10) := HB9.out.trans (hb10.mono hsz)
                clear hb10 HAl
                go_wp2_with fail
                go_ret
                exact ⟨by rfl, HB10.out⟩
              · obtain ⟨gl, el, _, _, _, hcl, _⟩ := rl.at (Or.inr hpl)
                simp only at el hcl
                subst el
                clear rl re
                have HCl := hide hcl
                go_wp2_with (first
                  | (at_builtin; go_loud (refine wpList_append_ints _ rfl _ _ rfl w.heap.size pe ce (Tm.namesB false os) _ rfl rfl HRe.out ⟨gl, 0, none⟩ (Tm.namesB true os).length cl (Tm.namesB true os) rfl rfl (fun i hi => by rw [Addr.add_lit, Nat.zero_add]; exact HCl.out i hi) (by first | omega | (simp only [List.length_nil]; omega)) hsz ?_))
                  | fail)
                intro p10 c10 w10 hr10 hg10 hn10 hl10
                have ap : AppL w9 w10 pe _ ce p10 := ⟨hg10, hl10⟩
                clear hn10
                have sn10 : Seen w10 q8 ((Tm.namesB false os) ++ Tm.namesB true os) := HSn9.out.kept (fun h0 g e hg => ap.off g hg (fun a ha q => (HQ8.out ⟨g, 0, none⟩ e h0).2 (by have := HOwn.out a ha; rw [q] at this; exact this))) hg10.size
                have HB10 : Hid (Below w.heap.size w w10) := below_own HB9.out (fun a ha => (HRe.out.lt ha).1) hg10
                have HAl := hide (fun n m hn hm => alike_n w10 q8 p10 c8 c10 ((Tm.namesB false os) ++ Tm.namesB true os) n m hn hm (by simp only [List.length_append]; omega) sn10 hr10.seen)
                have hz10 := HB10.out.size
                clear hr10 hg10 hl10 ap sn10
                go_wp2_with fail
                refine Calls.mono (HAl.out _ _ ?_ ?_) ?_
                · simp
                · simp
                rintro e w11 ⟨rfl, hb11, _⟩
                have HB11 : Hid (Below w.heap.size w w11) := HB10.out.trans (hb11.mono hz10)
                clear hb11 HAl
                go_wp2_with fail
                go_ret
                exact ⟨by rfl, HB11.out⟩
end
end Go.Proofs.YtcnmfljpmpgnjaaGreatDoor

namespace Go.Proofs.YtcnmfljpmpgnjaaGreatDoor
open Go.ChangeShapes Go.WideShapes Go.ChangeAt Go.RowKit Go.Deep Go.WideElems

theorem readNs : Tryz.prog.readableRec 24 = true := by kernel_rfl
theorem rowNs : 24 < Tryz.prog.types.size := of_decide_eq_true (by kernel_rfl)
theorem readBs : Tryz.prog.readableRec 40 = true := by kernel_rfl
theorem rowBs : 40 < Tryz.prog.types.size := of_decide_eq_true (by kernel_rfl)
theorem cellsI1 : Tryz.prog.cellsOf 3 = 1 := by kernel_rfl
theorem cellsB1 : Tryz.prog.cellsOf 4 = 1 := by kernel_rfl

theorem spot_none {w : World} {a : Addr} {v : Value} (h : w.cell? a = some v) : a.spot = none ∧ a.block < w.heap.size := by
  unfold World.cell? at h
  split at h
  · rename_i c t f hg
    refine ⟨?_, ?_⟩
    · cases hs : a.spot with
      | none => rfl
      | some k => rw [hs] at h; simp at h
    · rcases Nat.lt_or_ge a.block w.heap.size with q | q
      · exact q
      · rw [Array.getElem?_eq_none q] at hg; cases hg
  · cases h

theorem ints_arg {H : Type} {enc : TypeId × Value → H} {W : World} {fuel : Nat} {cs : List Value} {x : DataW H × List MemPlace} (h : DataW.trod enc Tryz.prog W 0 (fun _ => true) true fuel 24 cs = some x) :
    ∃ q c, ∃ ns : List Int, cs = [.slice q ns.length c] ∧ (0 < ns.length → ∃ g o, q = some ⟨g, o, none⟩ ∧ g < W.heap.size ∧ ∀ i, i < ns.length → W.cell? ⟨g, o + i, none⟩ = some (.int .i64 (ns.getD i 0))) ∧ ∀ i, i < ns.length → -9223372036854775808 ≤ ns.getD i 0 ∧ ns.getD i 0 ≤ 9223372036854775807 := by
  rcases open_ints Tryz.underlying24 Tryz.underlying3 cellsI1 h with ⟨rfl, _⟩ | ⟨a, len, cap, zs, rfl, _, hl, _, hz, _, hc, hw⟩
  · exact ⟨none, 0, [], rfl, fun h0 => absurd h0 (Nat.not_lt_zero _), fun i hi => absurd hi (Nat.not_lt_zero _)⟩
  simp only [if_true] at hz
  have hlen : (zs.take len).length = len := by simp; omega
  have hget : ∀ i, i < len → (zs.take len).getD i 0 = zs.getD i 0 := fun i hi => by
    rw [List.getD_eq_getElem?_getD, List.getD_eq_getElem?_getD, List.getElem?_take, if_pos hi]
  refine ⟨some a, cap, zs.take len, by rw [hlen], fun h0 => ?_, fun i hi => ?_⟩
  · rw [hlen] at h0
    have h1 := spot_none (hc 0 (by omega))
    obtain ⟨g, o, sp⟩ := a
    obtain rfl : sp = none := h1.1
    refine ⟨g, o, rfl, h1.2, fun i hi => ?_⟩
    rw [hlen] at hi
    rw [hget i hi, ← hc i (by omega), Addr.add_lit]
  · rw [hlen] at hi
    rw [hget i hi]
    exact in64_wf (hw _ (Tm.getD_mem _ _ _ (by omega)))

theorem bools_arg {H : Type} {enc : TypeId × Value → H} {W : World} {fuel : Nat} {cs : List Value} {x : DataW H × List MemPlace} (h : DataW.trod enc Tryz.prog W 0 (fun _ => true) true fuel 40 cs = some x) :
    ∃ q c, ∃ bs : List Bool, cs = [.slice q bs.length c] ∧ (0 < bs.length → ∃ g o, q = some ⟨g, o, none⟩ ∧ g < W.heap.size ∧ ∀ i, i < bs.length → W.cell? ⟨g, o + i, none⟩ = some (.bool (bs.getD i false))) := by
  rcases open_bools Tryz.underlying40 Tryz.underlying4 cellsB1 h with ⟨rfl, _⟩ | ⟨a, len, cap, V, rfl, _, hl, _, _, hc⟩
  · exact ⟨none, 0, [], rfl, fun h0 => absurd h0 (Nat.not_lt_zero _)⟩
  have hlen : ((List.range len).map V).length = len := by simp
  refine ⟨some a, cap, (List.range len).map V, by rw [hlen], fun h0 => ?_⟩
  rw [hlen] at h0
  have h1 := spot_none (hc 0 (by omega))
  obtain ⟨g, o, sp⟩ := a
  obtain rfl : sp = none := h1.1
  refine ⟨g, o, rfl, h1.2, fun i hi => ?_⟩
  rw [hlen] at hi
  have := hc i (by omega)
  rw [Addr.add_lit] at this
  rw [this, List.getD_eq_getElem?_getD]
  simp [hi]

set_option maxRecDepth 100000 in
theorem knamed_contract {R : (Nat → Prop) → World → Nat → Tm.H → Prop} {N : Nat} {A : Nat → Addr} (K : ProgOK R N A) (KN : NewOK R N A) {H : Type} (enc : TypeId × Value → H) {W : World} {args : Array Value} {ds gs : List (DataW H)} {before : List MemPlace} {base : Nat} (hE : Errs N A W)
    (hval : ∀ (j : Nat) t v, Tryz.f9.params[j]? = some t → args[j]? = some v → Value.okWide Tryz.prog W .any base t v)
    (hW : DataW.Whole enc Tryz.prog Tryz.f9.params.toList Rows.namedSpec.vars false W args.toList ds gs before) :
    Calls Tryz.prog 9 args W fun e W' => ∃ v, e = .returned v ∧ Rows.namedSpec.post enc Tryz.prog Tryz.f9 false true false false W args v W' := by
  have hW' := hW
  have hlt := hW.lt
  obtain ⟨p, q, hA0, hV, rfl, hfz, hnd⟩ := hW
  have hA : DataW.TrodAll enc Tryz.prog W 0 (fun _ => true) true Tryz.f9.params.toList args.toList ds p := hA0
  rw [Tryz.params9] at hA
  obtain ⟨rfl, rfl⟩ := trodVars_none hV
  obtain ⟨v0, v1, v2, d0, d1, d2, p0, p1, p2, hargs, rfl, rfl, hT0, hT1, hT2⟩ := trodAll_three hA
  have hargs' : args = #[v0, v1, v2] := by obtain ⟨l⟩ := args; simpa using hargs
  subst hargs'
  have o0 : Value.okWide Tryz.prog W .any base 24 v0 := hval 0 24 v0 (by rw [Tryz.params9]; rfl) (by simp)
  have o1 : Value.okWide Tryz.prog W .any base 40 v1 := hval 1 40 v1 (by rw [Tryz.params9]; rfl) (by simp)
  have o2 : Value.okWide Tryz.prog W .any base 3 v2 := hval 2 3 v2 (by rw [Tryz.params9]; rfl) (by simp)
  obtain ⟨z, rfl, rfl, rfl, q2⟩ := open_int Tryz.underlying3 o2 hT2
  have b2 := in64_wf q2
  have hT0' := hT0
  have hT1' := hT1
  obtain ⟨n0, hn0⟩ := hT0
  obtain ⟨n1, hn1⟩ := hT1
  obtain ⟨a0, c0, ns, e0, hns, hnr⟩ := ints_arg hn0
  obtain ⟨a1, c1, bs, e1, hbs⟩ := bools_arg hn1
  obtain ⟨a', l', c', rfl⟩ := okWide_slice Tryz.underlying24 o0
  have e2 : [Value.slice a' l' c'] = [Value.slice a0 ns.length c0] := e0
  injection e2 with e2
  injection e2 with e3 e4 e5
  subst e3 e4 e5
  obtain ⟨a'', l'', c'', rfl⟩ := okWide_slice Tryz.underlying40 o1
  have e6 : [Value.slice a'' l'' c''] = [Value.slice a1 bs.length c1] := e1
  injection e6 with e6
  injection e6 with e7 e8 e9
  subst e7 e8 e9
  refine (knamed_any K KN W hE _ _ _ _ ns bs z hns hnr hbs b2.1 b2.2).mono ?_
  rintro e W' ⟨rfl, hb⟩
  refine ⟨_, rfl, _, _, _, [], p0 ++ (p1 ++ []), [], hW', ?_, ?_, ?_, Below.keptBut hb _, fun h => by cases h⟩
  · exact trodAll_mk1 (shut_bool Tryz.underlying4 true)
  · exact trodAll_mk3 (Trod_stays laidOut readNs rowNs hT0' (fun x hx => Below.sameAt hb x (hlt x (by simp [hx]))) (fun x hx => by simpa using hlt x (by simp [hx])))
      (Trod_stays laidOut readBs rowBs hT1' (fun x hx => Below.sameAt hb x (hlt x (by simp [hx]))) (fun x hx => by simpa using hlt x (by simp [hx])))
      (shut_int Tryz.underlying3 q2)
  · rfl

theorem errs_of_knamed {W : World} (h : laidMetH Tryz.prog Rows.namedRow.laid W) : ∃ A, Errs W.heap.size A W := errs_of h
theorem door_met_knamed (os : Os) (args : Array Value) : laidMetH Tryz.prog Rows.namedRow.laid ((World.doorLaid Tryz.prog 400 os).forCall (fun _ _ => 0) ⟨#[], args, []⟩).memory :=
  laidMetH_of_parts3 (fuel := 8) (laidMet_of_run' 8 (by kernel_rfl) (by kernel_rfl)) (by kernel_rfl) (by kernel_rfl)

set_option maxRecDepth 100000 in
theorem lifted_knamed {R : (Nat → Prop) → World → Nat → Tm.H → Prop} (K : ∀ N A, ProgOK R N A) (KN : ∀ N A, NewOK R N A) (os : Os) (started : os.Started) (H : Type) (enc : TypeId × Value → H) :
    ReturnsInHanded {} Tryz.checked os 9 .any (fun w args => (Rows.namedSpec.pre enc Tryz.prog Tryz.f9 [] false w args ∧ laidMetH Tryz.prog Rows.namedRow.laid w) ∧ sizedMet enc Tryz.prog Tryz.f9 (OpenSpec.ofChange Rows.namedSpec) false w args)
      (Rows.namedSpec.post enc Tryz.prog Tryz.f9 false true false false) := by
  refine returnsInHanded_of_change_and (C := Tryz.checked) (X := fun w _ => laidMetH Tryz.prog Rows.namedRow.laid w) (fun _ _ _ hh h => h.of_heap hh) own started (by kernel_rfl) Tryz.func9
    (ChangeSpec.witness_shaped (enc := enc) (C := Tryz.checked) (os := os) (X := fun w _ => laidMetH Tryz.prog Rows.namedRow.laid w) false (World.doorLaid Tryz.prog 400 os) #[.slice none 0 0, .slice none 0 0, .int .i64 0] 8 rfl (World.shaped_of_RefB (by kernel_rfl) (by kernel_rfl)) (by kernel_rfl) (by kernel_rfl) (by kernel_rfl) (door_met_knamed os _)) ?_
  intro W base args ds gs before hval0 hW _ _ hL _
  obtain ⟨A, hE⟩ := errs_of_knamed hL
  exact knamed_contract (K _ A) (KN _ A) enc hE hval0 hW

theorem knamed_holds {R : (Nat → Prop) → World → Nat → Tm.H → Prop} (K : ∀ N A, ProgOK R N A) (KN : ∀ N A, NewOK R N A) : Rows.NamedSaid :=
  OpenClaim.holds_of_wide 9 Tryz.f9 rfl rfl rfl rfl rfl rfl rfl ⟨rfl, rfl, rfl, rfl, rfl⟩ rfl rfl rfl rfl rfl (by kernel_rfl) Tryz.func9 (by kernel_rfl)
    (of_decide_eq_true (by kernel_rfl)) (by unfold Func.isWrapper; rw [if_neg (of_decide_eq_false (by kernel_rfl))]; exact ⟨rfl, rfl⟩)
    (fun os started H enc _ => lifted_knamed K KN os started H enc)

theorem noStandN : Tryz.prog.wantsStandIn 3 = false := by kernel_rfl
theorem noStandNs : Tryz.prog.wantsStandIn 24 = false := by kernel_rfl
theorem noStandBs : Tryz.prog.wantsStandIn 40 = false := by kernel_rfl

theorem named_card_of {R : (Nat → Prop) → World → Nat → Tm.H → Prop} (K : ∀ N A, ProgOK R N A) (KN : ∀ N A, NewOK R N A) : Rows.NamedCardSaid :=
  Claim7.holds_tied_plain_at .later [] [.handle, .sentinel, .sentinel, .sentinel, .sentinel, .sentinel, .sentinel, .sentinel, .sentinel, .sentinel, .sentinel] true Rows.namedCard.stood.harness true
    (knamed_holds K KN) (fun _ h => by cases h) (by kernel_rfl) (fun _ h => by cases h) named_row_tie rfl ⟨rfl, rfl⟩ (by kernel_rfl) rfl
    (fun f fn hf hfn => by
      obtain rfl : f = 9 := Option.some.inj ((show Tryz.prog.funcNamed Rows.namedRow.func = some 9 by kernel_rfl).symm.trans hf) |>.symm
      obtain rfl : fn = Tryz.f9 := (Option.some.inj (Tryz.func9.symm.trans hfn)).symm
      exact ⟨by kernel_rfl, fun j t ht => by
        rw [Tryz.params9] at ht
        match j, ht with
        | 0, ht =>
          obtain rfl : 24 = t := by simpa using ht
          exact noStandNs
        | 1, ht =>
          obtain rfl : 40 = t := by simpa using ht
          exact noStandBs
        | 2, ht =>
          obtain rfl : 3 = t := by simpa using ht
          exact noStandN
        | j + 3, ht => simp at ht⟩)
    (by kernel_rfl)
end Go.Proofs.YtcnmfljpmpgnjaaGreatDoor

namespace Go.Proofs.YtcnmfljpmpgnjaaGreatDoor
theorem named_card : Rows.NamedCardSaid := named_card_of prog_ok new_ok
end Go.Proofs.YtcnmfljpmpgnjaaGreatDoor
