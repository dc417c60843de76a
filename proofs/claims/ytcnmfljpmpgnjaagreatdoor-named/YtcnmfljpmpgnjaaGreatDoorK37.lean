import Derived.Test.YtcnmfljpmpgnjaaGreatDoorK32
import Derived.Test.YtcnmfljpmpgnjaaGreatDoorK35
import Derived.Maps.AppendAt
import Derived.OwnWalk
import Derived.Test.YtcnmfljpmpgnjaaGreatDoorK34
import Derived.Test.YtcnmfljpmpgnjaaGreatDoorK01
namespace Go.Proofs.YtcnmfljpmpgnjaaGreatDoor
open Go.RowKit
open Tm (H Ob Sl Why)

/-- The cells of the list of all steps. -/
def allV (n : Nat) (ops : List Value) : List Value := firstV n ++ ops

/-- Where 'plays' begins: all steps lie in block g; the law's own struct in block wb. -/
structure Start (w w4 : World) (g wb : Nat) (ops : List Value) : Prop where
  below : Below w.heap.size w w4
  gnew : w.heap.size ≤ g
  glt : g < w4.heap.size
  bnew : w.heap.size ≤ wb
  blt : wb < w4.heap.size
  ne : g ≠ wb
  own : ∃ w1, OwnAt w w1 w.heap.size ∧ Below w1.heap.size w1 w4 ∧ w1.heap.size ≤ g ∧ w1.heap.size ≤ wb
  row : ∀ j v, (allV (w.heap.size + 1 + 1) ops)[j]? = some v → w4.cell? ⟨g, j, none⟩ = some v
  b0 : w4.cell? ⟨wb, 0, none⟩ = some (.slice none 0 0)
  b1 : w4.cell? ⟨wb, 1, none⟩ = some (.slice none 0 0)
  soft : ∀ i, w4.frozen? ⟨wb, i, none⟩ = false

theorem run_append_nil_arg {P : Program} (w : World) (t ty e : TypeId) (i : TypeInfo) (a : Addr) (n cap c : Nat) (h1 : P.underlying t = some (.slice e)) (h2 : P.info? e = some i) (hn : n ≤ cap) :
    (Builtin.append_ #[t, t] ty #[.slice (some a) n cap, .slice none 0 c]).run P w = .ok (.slice (some a) n cap) w := by
  simp [Builtin.append_, run_underlying h1, sizeOf, typeInfo, h2, Builtin.lenOf, Builtin.firstCells, hn, storeCells, Result.andThen]

/-- What 'append(all, script...)' leaves. -/
structure AllAt (w1 w3 : World) (g : Nat) (cells : List Value) : Prop where
  below : Below w1.heap.size w1 w3
  gnew : w1.heap.size ≤ g
  glt : g < w3.heap.size
  row : ∀ j v, cells[j]? = some v → w3.cell? ⟨g, j, none⟩ = some v

/-- The script behind the first steps. -/
theorem wpList_all (w1 : World) (fv : List Value) (hf : fv.length = 220) {ops : Array Oper} {rest : List Oper} {o : Oper} {a : Act} {Q : Exit → Act → World → Prop} (hgd : o.guard = none) (s x : Operand)
    (ho : o.op = .call { callee := .builtin .append, args := #[s, x], argTypes := #[22, 22] })
    (hs : a.eval s = .slice (some ⟨w1.heap.size, 0, none⟩) 22 22) (sp : Option Addr) (m c : Nat) (hx : a.eval x = .slice sp m c) (sv : List Value) (hl : sv.length = m * 10) (h1 : ∀ u ∈ sv, u.oneCell' = true)
    (hsp : sp = none → m = 0) (hc : ∀ ad, sp = some ad → ∀ j u, sv[j]? = some u → (w1.alloc (.cells fv.toArray 85)).cell? (ad.add j) = some u) (hm : m ≤ 1466015503679)
    (h : ∀ g cap w3, AllAt w1 w3 g (fv ++ sv) → wpList Tryz.prog ops Q rest (a.put o.dst (.slice (some ⟨g, 0, none⟩) (22 + m) cap)) w3) :
    wpList Tryz.prog ops Q (o :: rest) a (w1.alloc (.cells fv.toArray 85)) := by
  obtain ⟨iP, hiP, hp0, hp1, hp2⟩ := info_parts infoOp
  have hown : (w1.alloc (.cells fv.toArray 85)).ownsRow w1.heap.size 85 10 (.slice (some ⟨w1.heap.size, 0, none⟩) 22 22) 22 fv :=
    ⟨by omega, .inr ⟨w1.heap.size, 22, fv.toArray, rfl, Nat.le_refl _, heap_alloc_new w1 _, Nat.le_refl _, by unfold maxLen; omega, by simp [hf], by simp [List.take_of_length_le (show fv.length ≤ 220 by omega)]⟩⟩
  cases sp with
  | none =>
    obtain rfl := hsp rfl
    have hsv : sv = [] := List.length_eq_zero_iff.1 (by omega)
    subst hsv
    have hrun := run_append_nil_arg (P := Tryz.prog) (w1.alloc (.cells fv.toArray 85)) 22 o.type 85 iP ⟨w1.heap.size, 0, none⟩ 22 22 c Tryz.underlying22 hiP (Nat.le_refl _)
    refine wpList_plain hgd fun K hK => ?_
    unfold Oper.wp
    simp [execOp, ho, resolve, invoke, builtin, hs, hx, hrun, Result.andThen]
    refine hK _ _ (h w1.heap.size 22 _ ⟨Below.alloc0 w1 _, Nat.le_refl _, by simp, fun j v hv => ?_⟩)
    rw [List.append_nil] at hv
    rw [World.cell?_alloc_new]; simpa using hv
  | some ad =>
    refine wpList_append_own_at _ hgd s x 22 ho w1.heap.size 85 iP _ 10 96 Tryz.underlying22 hiP hp0 hp1 hp2 rfl (by decide) _ _ _ hs hown ad m c sv hx hl (hc ad rfl) h1 (by unfold maxLen; omega) (by omega) (by simp) ?_
    intro v' w' hown' hg hnil hloc
    obtain ⟨hlen, hv⟩ := hown'
    rcases hv with ⟨_, e⟩ | ⟨g, cap, cur, rfl, hb, hgb, hcap, hcm, hsz, htk⟩
    · omega
    · have hlt : g < w'.heap.size := by
        rcases Nat.lt_or_ge g w'.heap.size with h | h
        · exact h
        · rw [Array.getElem?_eq_none h] at hgb; cases hgb
      refine h g cap w' ⟨⟨hg.os, hg.tape, hg.output, by have := hg.size; simp at this; omega, fun k hk => ?_⟩, hb, hlt, fun j v hj => ?_⟩
      · rw [hg.block k (by simp; omega) (by simp [Value.ownBlock]; omega)]; exact (Below.alloc0 w1 _).block k hk
      · simp only [World.cell?, hgb]
        have hjl : j < (22 + m) * 10 := by
          rcases Nat.lt_or_ge j ((22 + m) * 10) with h | h
          · exact h
          · rw [List.getElem?_eq_none (by omega)] at hj; cases hj
        have h9 : (cur.toList.take ((22 + m) * 10))[j]? = some v := by rw [htk]; exact hj
        rw [List.getElem?_take, if_pos hjl] at h9
        simpa using h9

theorem firstOp_len (k a b c : Int) : (firstOp k a b c).length = 10 := rfl
theorem firstV_len (b : Nat) : (firstV b).length = 220 := by
  unfold firstV
  simp only [List.length_append, firstOp_len, List.length_cons, List.length_nil]

theorem cell_own {w w1 : World} (ho : OwnAt w w1 w.heap.size) (o : Obj) {ad : Addr} {j : Nat} {u : Value} (h : ad.block < w.heap.size) (hc : w.cell? (ad.add j) = some u) : (w1.alloc o).cell? (ad.add j) = some u := by
  have hz := ho.size
  have hb := (ho.below.trans ((Below.alloc0 w1 o).mono (by omega))).block ad.block h
  have e : (ad.add j).block = ad.block := by unfold Addr.add; split <;> rfl
  rw [World.cell?_of_block (w := w) (a := ad.add j) (by rw [e]; exact hb)]
  exact hc

/-- What is so of the world between two steps, as far as 'plays' looks. -/
structure Looked (w' : World) (g wb bl : Nat) (cells : List Value) (L : List Int) : Prop where
  row : ∀ j v, cells[j]? = some v → w'.cell? ⟨g, j, none⟩ = some v
  glt : g < w'.heap.size
  play : ∀ k, k < L.length → w'.cell? ⟨bl, k, none⟩ = some (.int .i64 (L.getD k 0))
  blt : bl < w'.heap.size

def IsOp (cells : List Value) (i : Nat) (kd xA xB xD xE c0 c1 c2 c3 : Int) (cp : Option Addr) (cn cc : Nat) : Prop :=
  cells[i * 10]? = some (.int .i64 kd) ∧ cells[i * 10 + 1]? = some (.int .i64 xA) ∧ cells[i * 10 + 2]? = some (.int .i64 xB) ∧ cells[i * 10 + 3]? = some (.int .i64 xD) ∧ cells[i * 10 + 4]? = some (.int .i64 xE) ∧ cells[i * 10 + 5]? = some (.int .i64 c0) ∧ cells[i * 10 + 6]? = some (.int .i64 c1) ∧ cells[i * 10 + 7]? = some (.int .i64 c2) ∧ cells[i * 10 + 8]? = some (.int .i64 c3) ∧ cells[i * 10 + 9]? = some (.slice cp cn cc)

set_option maxRecDepth 100000 in
set_option maxHeartbeats 8000000 in
theorem plays_any (w : World) (sp : Option Addr) (m c bl cL : Nat) (L : List Int) (hL : L.length ≤ 64) (sv : List Value) (hl : sv.length = m * 10) (h1 : ∀ u ∈ sv, u.oneCell' = true)
    (hsp : sp = none → m = 0) (hc : ∀ ad, sp = some ad → ∀ j u, sv[j]? = some u → ad.block < w.heap.size ∧ w.cell? (ad.add j) = some u) (hm : m ≤ 1466015503679)
    (I : Nat → Nat → Nat → World → Prop) (hstart : ∀ w4 g wb, Start w w4 g wb sv → I g wb 0 w4)
    (hI : ∀ g wb i w', I g wb i w' → i ≤ 22 + m → Looked w' g wb bl (allV (w.heap.size + 1 + 1) sv) L ∧ ∃ KB nK cK bK pK, BookAt w' wb KB nK cK bK pK ∧ nK ≤ 17592186044416) (hskip : ∀ g wb i w' o, I g wb i w' → I g wb (i + 1) (w'.alloc o))
    (hops : ∀ i, i < 22 + m → ∃ kd xA xB xD xE c0 c1 c2 c3 cp cn cc, IsOp (allV (w.heap.size + 1 + 1) sv) i kd xA xB xD xE c0 c1 c2 c3 cp cn cc)
    (hstep : ∀ g wb i w' o kd xA xB xD xE c0 c1 c2 c3 cp cn cc, I g wb i w' → i < 22 + m → IsOp (allV (w.heap.size + 1 + 1) sv) i kd xA xB xD xE c0 c1 c2 c3 cp cn cc → (L.any fun x => x == kd) = true →
      Calls Tryz.prog 47 #[.pointer (some ⟨wb, 0, none⟩), .agg #[.int .i64 kd, .int .i64 xA, .int .i64 xB, .int .i64 xD, .int .i64 xE, .int .i64 c0, .int .i64 c1, .int .i64 c2, .int .i64 c3, .slice cp cn cc]] (w'.alloc o) fun e w'' => e = .returned (.bool true) ∧ I g wb (i + 1) w'') :
    Calls Tryz.prog 14 #[.slice sp m c, .slice (some ⟨bl, 0, none⟩) L.length cL] w fun e w' => e = .returned (.bool true) ∧ ∃ g wb, I g wb (22 + m) w' := by
  have HF := hide (first_any w)
  have HI := hide hI
  have HS := hide hstart
  have HK := hide hskip
  have HSt := hide hstep
  have HOp := hide hops
  have HC := hide hc
  clear hI hstart hskip hstep hops hc
  go_enter Tryz.func14, Tryz.ntmps14
  go_wp2_with (first
    | (go_at_call 45
       refine HF.out.mono ?_
       rintro e w2 ⟨rfl, w1, ho1, rfl⟩
       have hz1 := ho1.size
       have HO1 := hide ho1
       clear ho1)
    | (at_builtin
       refine wpList_all w1 (firstV (w.heap.size + 1 + 1)) ?hf rfl _ _ rfl ?hs sp m c rfl sv hl h1 hsp ?hcell hm ?_
       case hf => exact firstV_len _
       case hs => rw [hz1]; rfl
       case hcell =>
         intro ad ha j u hj
         exact cell_own HO1.out _ (HC.out ad ha j u hj).1 (HC.out ad ha j u hj).2
       intro g cap w3 hall
       have HAll := hide hall
       have hgz := hall.glt
       have hgn := hall.gnew
       clear hall)
    | fail)
  have HStart : Hid (I g w3.heap.size 0 (w3.alloc (.cells #[.slice none 0 0, .slice none 0 0] 83))) := by
    have hz3 := HAll.out.below.size
    refine HS.out _ _ _ ⟨?_, by omega, by simp; omega, by omega, by simp, by omega, ⟨w1, HO1.out, ?_, hgn, hz3⟩, fun j v hj => ?_, ?_, ?_, fun i => ?_⟩
    · exact HO1.out.below.trans ((HAll.out.below.mono (by omega)).trans ((Below.alloc0 w3 _).mono (by omega)))
    · exact HAll.out.below.trans ((Below.alloc0 w3 _).mono hz3)
    · rw [World.cell?_alloc_lt _ _ _ hgz]; exact HAll.out.row j v hj
    · rw [World.cell?_alloc_new]; rfl
    · rw [World.cell?_alloc_new]; rfl
    · exact World.frozen?_alloc_new _ _ _ _
  go_loopw [7] (fun iv wr => ∃ i : Nat, i ≤ 22 + m ∧ iv = .int .i64 i ∧ I g w3.heap.size i wr) (fun iv _ => 22 + m - (intOf iv).toNat)
  case atStart => exact ⟨0, by omega, rfl, HStart.out⟩
  case round =>
    obtain ⟨i, hi, rfl, hIi⟩ := hrel
    have HIi := hide hIi
    have lk := (HI.out _ _ _ _ hIi hi).1
    clear hIi
    by_cases hlt : i < 22 + m
    · have bi : (i : Int) < 22 + (m : Int) := by omega
      obtain ⟨kd, xA, xB, xD, xE, c0, c1, c2, c3, cp, cn, cc, hop⟩ := HOp.out i hlt
      have HOi := hide hop
      obtain ⟨k0, k1, k2, k3, k4, k5, k6, k7, k8, k9⟩ := hop
      have q0 := lk.row _ _ k0
      have q1 := lk.row _ _ k1
      have q2 := lk.row _ _ k2
      have q3 := lk.row _ _ k3
      have q4 := lk.row _ _ k4
      have q5 := lk.row _ _ k5
      have q6 := lk.row _ _ k6
      have q7 := lk.row _ _ k7
      have q8 := lk.row _ _ k8
      have q9 := lk.row _ _ k9
      have bM : (i : Int) < 144115188075855872 := by omega
      have hblt := lk.blt
      have hpl := lk.play
      have HAm := fun o => hide (among_any (wr.alloc o) bl cL L kd hL (fun k hk => by rw [World.cell?_alloc_lt _ _ _ hblt]; exact hpl k hk))
      clear k0 k1 k2 k3 k4 k5 k6 k7 k8 k9 lk hpl
      cases ha : L.any fun x => x == kd
      · simp only [ha] at HAm
        go_wp2_with (first
          | (go_at_call 46; refine ((HAm _).out).mono ?_; rintro e w' ⟨rfl, rfl⟩)
          | fail)
        exact ⟨⟨i + 1, by omega, by go_num, HK.out _ _ _ _ _ HIi.out⟩, by simp [intOf]; omega⟩
      · simp only [ha] at HAm
        have HS1 := fun o => hide (HSt.out g w3.heap.size i wr o kd xA xB xD xE c0 c1 c2 c3 cp cn cc HIi.out hlt HOi.out ha)
        go_wp2_with (first
          | (go_at_call 46; refine ((HAm _).out).mono ?_; rintro e w' ⟨rfl, rfl⟩)
          | (go_at_call 47
             refine ((HS1 _).out).mono ?_
             rintro e w5 ⟨rfl, hI5⟩
             have HI5 := hide hI5
             obtain ⟨KB, nK, cK, bK, pK, hbk, hnK⟩ := (HI.out _ _ _ _ hI5 (by omega)).2
             have HLk := hide (looks_any hbk hnK)
             clear hI5 hbk hnK)
          | (go_at_call 48; refine HLk.out.mono ?_; rintro e w' ⟨rfl, rfl⟩)
          | fail)
        exact ⟨⟨i + 1, by omega, by go_num, HI5.out⟩, by simp [intOf]; omega⟩
    · have bi : ¬ (i : Int) < 22 + (m : Int) := by omega
      have ei : i = 22 + m := by omega
      have HEi := hide ei
      clear ei lk
      go_wp2_with fail
      go_ret
      exact ⟨rfl, g, w3.heap.size, by rw [← HEi.out]; exact HIi.out⟩
end Go.Proofs.YtcnmfljpmpgnjaaGreatDoor

namespace Go.Proofs.YtcnmfljpmpgnjaaGreatDoor
open Go.RowKit
open Tm (H Ob Sl Why)

/-- What else is so of every heap that is played with. -/
structure Fair (h : H) : Prop where
  told : h.toldOK
  cls : 0 < h.classes.length
  locs : 0 < (h.t 1).length

/-- Where the heaps of the law lie: n pairs. -/
structure Heaps (R : (Nat → Prop) → World → Nat → H → Prop) (N B : Nat) (w : World) (g wb bl n cL bL i : Nat) (pL : Option Addr) (pa ra : Nat → Nat) (hs : Nat → H) (SP SR : Nat → Nat → Prop) (KB : Nat → Prop) : Prop where
  prs : Prs w wb n cL bL pL
  few : n ≤ i
  ptr : ∀ j, j < n → w.cell? ⟨bL, j * 2, none⟩ = some (.pointer (some ⟨pa j, 0, none⟩)) ∧ w.cell? ⟨bL, j * 2 + 1, none⟩ = some (.pointer (some ⟨ra j, 0, none⟩))
  pair : ∀ j, j < n → Pair R N (SP j) (SR j) w (pa j) (ra j) (hs j)
  fair : ∀ j, j < n → Fair (hs j) ∧ (hs j).l.length ≤ i
  apart : ∀ j k b, j < n → k < n → j ≠ k → SP j b ∨ SR j b → ¬ (SP k b ∨ SR k b)
  off : ∀ j b, j < n → SP j b ∨ SR j b → B ≤ b ∧ b ≠ wb ∧ b ≠ g ∧ (0 < cL → b ≠ bL)
  list : 0 < cL → B ≤ bL ∧ bL ≠ g
  gb : B ≤ g ∧ B ≤ wb ∧ g ≠ wb ∧ bl < B
  book : ∃ nK cK bK pK, BookAt w wb KB nK cK bK pK ∧ nK % 4 = 0 ∧ nK ≤ 4 * i
  kb : ∀ b, KB b → B ≤ b ∧ b ≠ g ∧ (0 < cL → b ≠ bL) ∧ ∀ j, j < n → ¬ (SP j b ∨ SR j b)

/-- What is so between two steps. -/
structure Inv (R : (Nat → Prop) → World → Nat → H → Prop) (N : Nat) (A : Nat → Addr) (w0 : World) (bl : Nat) (cells : List Value) (L : List Int) (g wb i : Nat) (w : World) : Prop where
  errs : Errs N A w
  looked : Looked w g wb bl cells L
  below : Below w0.heap.size w0 w
  le : N ≤ w0.heap.size
  heaps : ∃ n cL bL pL pa ra hs SP SR KB, Heaps R N w0.heap.size w g wb bl n cL bL i pL pa ra hs SP SR KB

section
variable {R : (Nat → Prop) → World → Nat → H → Prop} {N : Nat} {A : Nat → Addr} {w0 : World} {bl : Nat} {cells : List Value} {L : List Int} {g wb i : Nat} {w W w' : World}

theorem Looked.kept {T : Nat → Prop} (l : Looked w g wb bl cells L) (hk : Kept T w w') (h1 : ¬ T g) (h3 : ¬ T bl) : Looked w' g wb bl cells L :=
  ⟨fun j v hj => by rw [cell_of (hk.block g l.glt h1)]; exact l.row j v hj, Nat.lt_of_lt_of_le l.glt hk.size, fun k hk' => by rw [cell_of (hk.block bl l.blt h3)]; exact l.play k hk', Nat.lt_of_lt_of_le l.blt hk.size⟩

/-- Nothing but new memory. -/
theorem Inv.grow (ok : ROK R) (v : Inv R N A w0 bl cells L g wb i w) (hb : Below w.heap.size w w') (i' : Nat) (hi : i ≤ i') : Inv R N A w0 bl cells L g wb i' w' := by
  obtain ⟨n, cL, bL, pL, pa, ra, hs, SP, SR, KB, q⟩ := v.heaps
  have hk : Kept (fun _ => False) w w' := Kept.of_below hb
  obtain ⟨nK, cK, bK, pK, bk, bk4, bki⟩ := q.book
  refine ⟨v.errs.below hb v.errs.le, v.looked.kept hk id id, v.below.trans (hb.mono v.below.size), v.le, n, cL, bL, pL, pa, ra, hs, SP, SR, KB, q.prs.below hb, Nat.le_trans q.few hi, fun j hj => ?_, fun j hj => (q.pair j hj).below ok hb, fun j hj => ⟨(q.fair j hj).1, Nat.le_trans (q.fair j hj).2 hi⟩, q.apart, q.off, q.list, q.gb, ⟨nK, cK, bK, pK, bk.kept q.prs.lt hk id (fun _ _ => id), bk4, by omega⟩, q.kb⟩
  have hc : 0 < cL := by have := q.prs.cap; omega
  rw [hb.cell (q.prs.blt hc), hb.cell (q.prs.blt hc)]; exact q.ptr j hj

/-- A step on one pair. -/
theorem Inv.one (ok : ROK R) (v : Inv R N A w0 bl cells L g wb i w) {n cL bL : Nat} {pL : Option Addr} {pa ra : Nat → Nat} {hs : Nat → H} {SP SR : Nat → Nat → Prop} {KB : Nat → Prop} (q : Heaps R N w0.heap.size w g wb bl n cL bL i pL pa ra hs SP SR KB) (j : Nat) (hj : j < n) (h' : H) (hf : Fair h') (hl : h'.l.length ≤ i + 1) (hW : Below w.heap.size w W) (o : One R N (SP j) (SR j) W (pa j) (ra j) h' w') (hE : Errs N A w') :
    Inv R N A w0 bl cells L g wb (i + 1) w' := by
  obtain ⟨Sp', Sr', P', k, n1, n2⟩ := o
  have hz := hW.size
  have hk : Kept (fun b => SP j b ∨ SR j b) w w' := ⟨k.os.trans hW.os, k.tape.trans hW.tape, k.output.trans hW.output, Nat.le_trans hz k.size, fun x hx hn => (k.block x (by omega) hn).trans (hW.block x hx)⟩
  have offj := fun b hb => q.off j b hj hb
  have hc : 0 < cL := by have := q.prs.cap; omega
  have hbl := q.prs.blt hc
  have hwb := q.prs.lt
  have nwb : ¬ (SP j wb ∨ SR j wb) := fun h => (offj wb h).2.1 rfl
  have ng : ¬ (SP j g ∨ SR j g) := fun h => (offj g h).2.2.1 rfl
  have nbL : ¬ (SP j bL ∨ SR j bL) := fun h => (offj bL h).2.2.2 hc rfl
  have nbl : ¬ (SP j bl ∨ SR j bl) := fun h => by have := (offj bl h).1; have := q.gb.2.2.2; omega
  have new' : ∀ b, Sp' b ∨ Sr' b → (SP j b ∨ SR j b) ∨ w.heap.size ≤ b := fun b hb => by
    rcases hb with hb | hb
    · rcases n1 b hb with h | h
      · exact Or.inl (Or.inl h)
      · exact Or.inr (by omega)
    · rcases n2 b hb with h | h
      · exact Or.inl (Or.inr h)
      · exact Or.inr (by omega)
  have hlt : ∀ k b, k < n → SP k b ∨ SR k b → b < w.heap.size := fun k b hk' hb => by
    rcases hb with hb | hb
    · exact ((q.pair k hk').lp b hb).2
    · exact ((q.pair k hk').lr b hb).2
  obtain ⟨nK, cK, bK, pK, bk, bk4, bki⟩ := q.book
  refine ⟨hE, v.looked.kept hk ng nbl, ?_, v.le, n, cL, bL, pL, pa, ra, fun x => if x = j then h' else hs x, fun x => if x = j then Sp' else SP x, fun x => if x = j then Sr' else SR x, KB, ?_, Nat.le_trans q.few (by omega), fun x hx => ?_, fun x hx => ?_, fun x hx => ?_, fun x y b hx hy hxy hb => ?_, fun x b hx hb => ?_, q.list, q.gb, ⟨nK, cK, bK, pK, bk.kept hwb hk nwb (fun b hb hT => (q.kb b hb).2.2.2 j hj hT), bk4, by omega⟩, fun b hb => ⟨(q.kb b hb).1, (q.kb b hb).2.1, (q.kb b hb).2.2.1, fun x hx => ?_⟩⟩
  · exact ⟨hk.os.trans v.below.os, hk.tape.trans v.below.tape, hk.output.trans v.below.output, Nat.le_trans v.below.size hk.size, fun x hx => (hk.block x (Nat.lt_of_lt_of_le hx v.below.size) (fun h => by have := (offj x h).1; omega)).trans (v.below.block x hx)⟩
  · have hp := q.prs
    exact ⟨by rw [cell_of (hk.block wb hwb nwb)]; exact hp.head, by rw [frozen_of (hk.block wb hwb nwb)]; exact hp.soft, Nat.lt_of_lt_of_le hwb hk.size, fun h0 => ⟨(hp.list h0).1, by rw [hk.block bL hbl nbL]; exact (hp.list h0).2⟩, hp.ne, hp.nil, hp.cap, hp.capm⟩
  · rw [cell_of (hk.block bL hbl nbL), cell_of (hk.block bL hbl nbL)]; exact q.ptr x hx
  · by_cases e : x = j
    · subst e; simp only [if_true]; exact P'
    · simp only [if_neg e]
      refine (q.pair x hx).off ok hk (fun b hb => ?_)
      have := q.apart j x b hj hx (fun h => e h.symm) hb
      exact ⟨fun h => this (Or.inl h), fun h => this (Or.inr h)⟩
  · by_cases e : x = j
    · subst e; simp only [if_true]; exact ⟨hf, hl⟩
    · simp only [if_neg e]; exact ⟨(q.fair x hx).1, by have := (q.fair x hx).2; omega⟩
  · by_cases e1 : x = j
    · subst e1
      have e2 : y ≠ x := fun h => hxy h.symm
      simp only [if_true, if_neg e2] at hb ⊢
      intro hy'
      rcases new' b hb with h | h
      · exact q.apart x y b hx hy hxy h hy'
      · have := hlt y b hy hy'; omega
    · by_cases e2 : y = j
      · subst e2
        simp only [if_true, if_neg e1] at hb ⊢
        intro hy'
        rcases new' b hy' with h | h
        · exact q.apart x y b hx hy hxy hb h
        · have := hlt x b hx hb; omega
      · simp only [if_neg e1, if_neg e2] at hb ⊢
        exact q.apart x y b hx hy hxy hb
  · by_cases e : x = j
    · subst e
      simp only [if_true] at hb
      rcases new' b hb with h | h
      · exact q.off x b hx h
      · have hg := v.looked.glt
        have := v.below.size
        exact ⟨by omega, by omega, by omega, fun _ => by omega⟩
    · simp only [if_neg e] at hb; exact q.off x b hx hb
  · by_cases e : x = j
    · subst e
      simp only [if_true]
      intro hy
      rcases new' b hy with h | h
      · exact (q.kb b hb).2.2.2 x hx h
      · have := bk.lt b hb; omega
    · simp only [if_neg e]; exact (q.kb b hb).2.2.2 x hx

/-- A heap more. -/
theorem Inv.begun (ok : ROK R) (v : Inv R N A w0 bl cells L g wb i w) {n cL bL : Nat} {pL : Option Addr} {pa ra : Nat → Nat} {hs : Nat → H} {SP SR : Nat → Nat → Prop} {KB : Nat → Prop} (q : Heaps R N w0.heap.size w g wb bl n cL bL i pL pa ra hs SP SR KB)
    {h : H} {p1 r1 : Nat} {S S' : Nat → Prop} {tag : Nat → Nat × Nat} {Y : Lay} {bL' cL' : Nat} (b : Begun R w w' wb n cL bL h p1 r1 S S' tag Y bL' cL') (hf : Fair h) (hl : h.l.length ≤ i + 1) :
    Inv R N A w0 bl cells L g wb (i + 1) w' := by
  have hwb := q.prs.lt
  have hg := v.looked.glt
  have hz := v.below.size
  have hk := b.kept
  have hzk := hk.size
  have hgb := q.gb
  have hle := v.le
  have hcap' : 0 < cL' := by have := b.prs.cap; omega
  have hbL : w0.heap.size ≤ bL' ∧ bL' ≠ g := by
    rcases b.bl with ⟨e, h0⟩ | h
    · subst e; exact q.list h0
    · exact ⟨by omega, by omega⟩
  have hold : ∀ k x, k < n → SP k x ∨ SR k x → x < w.heap.size ∧ ¬ (x = wb ∨ x = bL') := fun k x hk' hx => by
    have h1 : x < w.heap.size := by
      rcases hx with hx | hx
      · exact ((q.pair k hk').lp x hx).2
      · exact ((q.pair k hk').lr x hx).2
    refine ⟨h1, ?_⟩
    rintro (e | e)
    · exact (q.off k x hk' hx).2.1 e
    · rcases b.bl with ⟨e2, h0⟩ | h
      · exact (q.off k x hk' hx).2.2.2 h0 (e.trans e2)
      · omega
  have hnew : ∀ x, S x ∨ S' x → w.heap.size ≤ x := fun x hx => by
    rcases hx with hx | hx
    · exact b.pn x hx
    · exact b.rn x hx
  have rlt := b.r.lt
  have plt := ok.lt _ _ _ _ b.p
  obtain ⟨nK, cK, bK, pK, bk, bk4, bki⟩ := q.book
  have hKB : ∀ x, KB x → ¬ (x = wb ∨ x = bL') := fun x hx => by
    rintro (e | e)
    · exact bk.out (e ▸ hx)
    · rcases b.bl with ⟨e2, h0⟩ | h
      · exact (q.kb x hx).2.2.1 h0 (e.trans e2)
      · have := bk.lt x hx; omega
  refine ⟨v.errs.off' hk (fun x hx => ?_), ⟨fun j u hj => ?_, Nat.lt_of_lt_of_le hg hzk, fun k hk' => ?_, Nat.lt_of_lt_of_le v.looked.blt hzk⟩, ?_, v.le, n + 1, cL', bL', some ⟨bL', 0, none⟩, fun x => if x = n then p1 else pa x, fun x => if x = n then r1 else ra x, fun x => if x = n then h else hs x, fun x => if x = n then S else SP x, fun x => if x = n then S' else SR x, KB, b.prs, by have := q.few; omega, fun x hx => ?_, fun x hx => ?_, fun x hx => ?_, fun x y z hx hy hxy hb => ?_, fun x z hx hb => ?_, fun _ => hbL, q.gb, ⟨nK, cK, bK, pK, bk.at (b.rest 1 (by omega)) (b.restf 1) (fun x hx => hk.block x (bk.lt x hx) (hKB x hx)) hzk, bk4, by omega⟩, fun x hx => ⟨(q.kb x hx).1, (q.kb x hx).2.1, fun _ e => hKB x hx (Or.inr e), fun y hy => ?_⟩⟩
  · rcases hx with rfl | rfl <;> omega
  · rw [cell_of (hk.block g hg (by rintro (e | e); exact hgb.2.2.1 e; exact hbL.2 e.symm))]; exact v.looked.row j u hj
  · rw [cell_of (hk.block bl v.looked.blt (by rintro (e | e) <;> omega))]; exact v.looked.play k hk'
  · exact ⟨hk.os.trans v.below.os, hk.tape.trans v.below.tape, hk.output.trans v.below.output, Nat.le_trans hz hzk, fun x hx => (hk.block x (by omega) (by rintro (e | e) <;> omega)).trans (v.below.block x hx)⟩
  · by_cases e : x = n
    · subst e; simp only [if_true]; exact ⟨b.last0, b.last1⟩
    · simp only [if_neg e]
      have h2 := q.ptr x (by omega)
      rw [b.keep (x * 2) (by omega), b.keep (x * 2 + 1) (by omega)]; exact h2
  · by_cases e : x = n
    · subst e; simp only [if_true]
      exact ⟨b.p, ⟨tag, Y, b.r⟩, b.dj, fun z hz' => ⟨by have := b.pn z hz'; omega, plt z hz'⟩, fun z hz' => ⟨by have := b.rn z hz'; omega, rlt z hz'⟩⟩
    · simp only [if_neg e]
      have hx' : x < n := by omega
      refine (q.pair x hx').off ok hk (fun z hz' => ⟨fun h1 => (hold x z hx' (Or.inl h1)).2 hz', fun h1 => (hold x z hx' (Or.inr h1)).2 hz'⟩)
  · by_cases e : x = n
    · subst e; simp only [if_true]; exact ⟨hf, hl⟩
    · simp only [if_neg e]
      have := q.fair x (by omega)
      exact ⟨this.1, by omega⟩
  · by_cases e1 : x = n
    · subst e1
      have e2 : y ≠ x := fun h => hxy h.symm
      simp only [if_true, if_neg e2] at hb ⊢
      intro hy'
      have := hnew z hb
      have := (hold y z (by omega) hy').1
      omega
    · by_cases e2 : y = n
      · subst e2
        simp only [if_true, if_neg e1] at hb ⊢
        intro hy'
        have := hnew z hy'
        have := (hold x z (by omega) hb).1
        omega
      · simp only [if_neg e1, if_neg e2] at hb ⊢
        exact q.apart x y z (by omega) (by omega) hxy hb
  · by_cases e : x = n
    · subst e
      simp only [if_true] at hb
      have := hnew z hb
      refine ⟨by omega, by omega, by omega, fun _ e => ?_⟩
      rcases hb with hb | hb
      · exact b.out.1 (e ▸ hb)
      · exact b.out.2 (e ▸ hb)
    · simp only [if_neg e] at hb
      have h2 := q.off x z (by omega) hb
      exact ⟨h2.1, h2.2.1, h2.2.2.1, fun _ e2 => (hold x z (by omega) hb).2 (Or.inr e2)⟩
  · by_cases e : y = n
    · subst e
      simp only [if_true]
      intro hy2
      have := hnew x hy2
      have := bk.lt x hx
      omega
    · simp only [if_neg e]; exact (q.kb x hx).2.2.2 y (by omega)

theorem One.errs {SP0 SR0 : Nat → Prop} (P : ∀ b, SP0 b → N ≤ b) (Q : ∀ b, SR0 b → N ≤ b) {p q : Nat} {h' : H} (hE : Errs N A W) (o : One R N SP0 SR0 W p q h' w') : Errs N A w' := by
  obtain ⟨_, _, _, k, _, _⟩ := o
  exact hE.off' k (fun b hb => by rcases hb with hb | hb; exact P b hb; exact Q b hb)
end
end Go.Proofs.YtcnmfljpmpgnjaaGreatDoor

namespace Go.Proofs.YtcnmfljpmpgnjaaGreatDoor
open Go.RowKit
open Tm (H Ob Sl Why)

section
variable {R : (Nat → Prop) → World → Nat → H → Prop} {N : Nat} {A : Nat → Addr} {w0 : World} {bl : Nat} {cells : List Value} {L : List Int} {g wb i : Nat} {w : World}

/-- What a step of a kind does with one pair. -/
def AskOK (R : (Nat → Prop) → World → Nat → H → Prop) (N : Nat) (A : Nat → Addr) (wb i : Nat) (kd xA xB xD xE c0 c1 c2 c3 : Int) (cp : Option Addr) (cn cc : Nat) : Prop :=
  ∀ (W : World) (Sp Sr : Nat → Prop) (p q : Nat) (h : H), Pair R N Sp Sr W p q h → Errs N A W → Fair h → h.l.length ≤ i → ∃ h', Fair h' ∧ h'.l.length ≤ i + 1 ∧
    Calls Tryz.prog 81 #[.pointer (some ⟨wb, 0, none⟩), .agg #[.pointer (some ⟨p, 0, none⟩), .pointer (some ⟨q, 0, none⟩)], .agg #[.int .i64 kd, .int .i64 xA, .int .i64 xB, .int .i64 xD, .int .i64 xE, .int .i64 c0, .int .i64 c1, .int .i64 c2, .int .i64 c3, .slice cp cn cc]] W fun e w' => e = .returned (.bool true) ∧ One R N Sp Sr W p q h' w'

theorem below_dN {B : Nat} {a b : World} (h : Below B a b) (n : Nat) : Below B a (b.drewN n) := ⟨h.os, h.tape, h.output, h.size, h.block⟩

/-- A step on a heap, if there is one. -/
theorem Inv.ask (ok : ROK R) (v : Inv R N A w0 bl cells L g wb i w) (hi : i < 4398046511104) (kd xA xB xD xE c0 c1 c2 c3 : Int) (cp : Option Addr) (cn cc : Nat) (hk : 2 ≤ kd) (hk2 : kd ≤ 18) (hx : -9223372036854775808 ≤ xA) (hx2 : xA ≤ 9223372036854775807)
    (ask : AskOK R N A wb i kd xA xB xD xE c0 c1 c2 c3 cp cn cc) :
    Calls Tryz.prog 47 #[.pointer (some ⟨wb, 0, none⟩), .agg #[.int .i64 kd, .int .i64 xA, .int .i64 xB, .int .i64 xD, .int .i64 xE, .int .i64 c0, .int .i64 c1, .int .i64 c2, .int .i64 c3, .slice cp cn cc]] w fun e w' => e = .returned (.bool true) ∧ Inv R N A w0 bl cells L g wb (i + 1) w' := by
  obtain ⟨n, cL, bL, pL, pa, ra, hs, SP, SR, KB, q⟩ := v.heaps
  rcases Nat.eq_zero_or_pos n with rfl | h0
  · refine (step_none w wb cL bL pL q.prs kd xA xB xD xE c0 c1 c2 c3 cp cn cc hk hk2).mono ?_
    rintro e w' ⟨rfl, hb⟩
    exact ⟨rfl, v.grow ok hb (i + 1) (by omega)⟩
  · have hj := pickN_lt xA n h0
    have hc : 0 < cL := by have := q.prs.cap; omega
    refine step_ask w wb n cL bL pL q.prs h0 (by have := q.few; omega) pa ra q.ptr kd xA xB xD xE c0 c1 c2 c3 cp cn cc hk hk2 hx hx2 _ (fun d => ?_)
    generalize hW : (w.alloc (.cells #[.int .i64 kd, .int .i64 xA, .int .i64 xB, .int .i64 xD, .int .i64 xE, .int .i64 c0, .int .i64 c1, .int .i64 c2, .int .i64 c3, .slice cp cn cc] 85)).drewN d = W
    have hb : Below w.heap.size w W := by rw [← hW]; exact below_dN (Below.alloc0 w _) d
    have hWz : W.heap.size = w.heap.size + 1 := by rw [← hW]; simp
    have hWc : ∀ x, W.cell? ⟨w.heap.size, x, none⟩ = (w.alloc (.cells #[.int .i64 kd, .int .i64 xA, .int .i64 xB, .int .i64 xD, .int .i64 xE, .int .i64 c0, .int .i64 c1, .int .i64 c2, .int .i64 c3, .slice cp cn cc] 85)).cell? ⟨w.heap.size, x, none⟩ := fun x => by rw [← hW]; rfl
    clear hW
    obtain ⟨h', hf', hl', hcall⟩ := ask W _ _ _ _ _ ((q.pair _ hj).below ok hb) (v.errs.below hb v.errs.le) (q.fair _ hj).1 (q.fair _ hj).2
    refine hcall.mono ?_
    rintro e w' ⟨rfl, o⟩
    have hE' : Errs N A w' := One.errs (fun b h => ((q.pair _ hj).lp b h).1) (fun b h => ((q.pair _ hj).lr b h).1) (v.errs.below hb v.errs.le) o
    refine ⟨rfl, v.one ok q _ hj h' hf' hl' hb o hE', ?_⟩
    obtain ⟨_, _, _, k, _, _⟩ := o
    have hwb := q.prs.lt
    have hbl := q.prs.blt hc
    refine ⟨?_, ?_, fun x => ?_⟩
    · rw [cell_of (k.block wb (by omega) (fun h => (q.off _ wb hj h).2.1 rfl)), hb.cell hwb]
    · rw [k.block bL (by omega) (fun h => (q.off _ bL hj h).2.2.2 hc rfl), hb.block bL hbl]
    · rw [cell_of (k.block w.heap.size (by omega) (fun h => by
        rcases h with h | h
        · have := ((q.pair _ hj).lp _ h).2; omega
        · have := ((q.pair _ hj).lr _ h).2; omega)), hWc]
end
end Go.Proofs.YtcnmfljpmpgnjaaGreatDoor

namespace Go.Proofs.YtcnmfljpmpgnjaaGreatDoor
open Tm (H Ob Sl Why)

theorem Fair.setSl {h : H} (f : Fair h) (k i : Nat) (s : Sl) : Fair (h.setSl k i s) := ⟨f.told, f.cls, by rw [Tm.len_setSl]; exact f.locs⟩
theorem Fair.take {h : H} (f : Fair h) (k : Nat) (n : Int) : Fair (h.take k n).2 := f.setSl _ _ _
theorem toldOK_of {h h' : H} (t : h.toldOK) (he : h'.ended.length ≤ h.ended.length) (hc : Tm.countOf h'.l = Tm.countOf h.l) (hl : h'.l.length = h.l.length) : h'.toldOK := by
  unfold H.toldOK at *; rw [hc, hl]; omega
theorem countOf_over (l : List Ob) (j : Nat) (o : Ob) (h : l.length ≤ j) : Tm.countOf (l.set j o) = Tm.countOf l := by rw [List.set_eq_of_length_le h]
theorem Fair.setVal {h : H} (f : Fair h) (j m : Nat) (v : Int) : Fair (h.setVal j m v) :=
  ⟨toldOK_of f.told (Nat.le_refl _) (Tm.countOf_set h.l j { h.l.getD j Tm.ob0 with vals := (h.l.getD j Tm.ob0).vals.set m v } rfl) (Tm.len_setVal _ _ _ _), f.cls, f.locs⟩
theorem Fair.setPins {h : H} (f : Fair h) (j : Nat) (v : Int) : Fair (h.setPins j v) ∧ (h.setPins j v).l.length = h.l.length :=
  ⟨⟨toldOK_of f.told (Nat.le_refl _) (Tm.countOf_set h.l j { h.l.getD j Tm.ob0 with pins := v } rfl) (by simp [H.setPins]), f.cls, f.locs⟩, by simp [H.setPins]⟩
theorem Fair.coll {h : H} (f : Fair h) (M : List Bool) : Fair (h.collTo M h.l.length) :=
  ⟨Tm.collTo_told f.told M _ (Nat.le_refl _), by rw [(Tm.collTo_same h M _).2.2.2]; exact f.cls, by rw [(Tm.collTo_same h M _).1]; exact f.locs⟩
theorem Fair.grown {h : H} (f : Fair h) (ks : List Int) (nm : Int) : Fair (h.grown ks nm) := by
  refine ⟨?_, f.cls, f.locs⟩
  have := f.told
  unfold H.toldOK at this ⊢
  rw [Tm.len_grown]
  show (h.ended.length : Int) + Tm.countOf (h.l ++ _) ≤ _
  rw [Tm.countOf_append]; simp [Tm.countOf]; omega
theorem Fair.makeBy {h : H} (f : Fair h) (M : List Bool) (ks : List Int) (nm : Int) : Fair (h.makeBy M ks nm).2 ∧ (h.makeBy M ks nm).2.l.length ≤ h.l.length + 1 := by
  have hr : Fair (h.roomy M ks) ∧ (h.roomy M ks).l.length = h.l.length := ⟨by unfold H.roomy; split; exact f.coll M; exact f, (Tm.roomy_same h M ks).2.2⟩
  unfold H.makeBy
  split
  · exact ⟨f, Nat.le_succ _⟩
  · split
    · exact ⟨hr.1, by simp only; omega⟩
    · exact ⟨(hr.1.grown ks nm).take 1 _, by show ((h.roomy M ks).grown ks nm).l.length ≤ _; rw [Tm.len_grown]; omega⟩

theorem len_set {h : H} (x i v : Int) : (h.set x i v).2.l.length = h.l.length := by
  unfold H.set; split; rfl; split; rfl; split; exact Tm.len_setVal _ _ _ _; rfl
theorem Fair.set {h : H} (f : Fair h) (x i v : Int) : Fair (h.set x i v).2 := by
  unfold H.set; split; exact f; split; exact f; split; exact f.setVal _ _ _; exact f
theorem len_point {h : H} (x i v : Int) : (h.point x i v).2.l.length = h.l.length := by
  unfold H.point; split; rfl; split; rfl; split; exact Tm.len_setVal _ _ _ _; rfl
theorem Fair.point {h : H} (f : Fair h) (x i v : Int) : Fair (h.point x i v).2 := by
  unfold H.point; split; exact f; split; exact f; split; exact f.setVal _ _ _; exact f
theorem Fair.freed {h : H} (f : Fair h) (x : Int) : Fair (h.freed x).2 ∧ (h.freed x).2.l.length = h.l.length := by
  unfold H.freed; split; exact ⟨f, rfl⟩; exact ⟨f.setSl _ _ _, rfl⟩
theorem Fair.ref {h : H} (f : Fair h) (k x : Int) : Fair (h.ref k x).2 ∧ (h.ref k x).2.l.length = h.l.length := by
  unfold H.ref; split; exact ⟨f, rfl⟩; split; exact ⟨f, rfl⟩; split; exact ⟨f, rfl⟩; exact ⟨f.take _ _, rfl⟩
theorem Fair.follow {h : H} (f : Fair h) (x i : Int) : Fair (h.follow x i).2 ∧ (h.follow x i).2.l.length = h.l.length := by
  unfold H.follow; split; exact ⟨f, rfl⟩; split; exact ⟨f, rfl⟩; split; exact ⟨f, rfl⟩; split; exact ⟨f, rfl⟩; exact ⟨f.take _ _, rfl⟩
theorem Fair.ofClass {h : H} (f : Fair h) (M : List Bool) (c : Int) : Fair (h.ofClass M c).2 ∧ (h.ofClass M c).2.l.length ≤ h.l.length + 1 := by
  unfold H.ofClass; split; exact f.makeBy M _ _; exact ⟨f, Nat.le_succ _⟩
theorem Fair.arr {h : H} (f : Fair h) (M : List Bool) (k n : Int) : Fair (h.arr M k n).2 ∧ (h.arr M k n).2.l.length ≤ h.l.length + 1 := by
  unfold H.arr; split; exact f.makeBy M _ _; exact ⟨f, Nat.le_succ _⟩
theorem Fair.extern {h : H} (f : Fair h) (M : List Bool) (n : Int) : Fair (h.extern M n).2 ∧ (h.extern M n).2.l.length ≤ h.l.length + 1 := by
  unfold H.extern; split; exact f.makeBy M _ _; exact ⟨f, Nat.le_succ _⟩
theorem Fair.tld {h : H} (f : Fair h) : Fair h.told := ⟨toldOK_of f.told (Nat.zero_le _) rfl rfl, f.cls, f.locs⟩
theorem Fair.push {h : H} (f : Fair h) : Fair h.push.2 ∧ h.push.2.l.length = h.l.length := by
  unfold H.push; split; exact ⟨f, rfl⟩; exact ⟨⟨f.told, f.cls, f.locs⟩, rfl⟩
theorem Fair.pin {h : H} (f : Fair h) (x : Int) : Fair (h.pin x).2 ∧ (h.pin x).2.l.length = h.l.length := by
  unfold H.pin; split; exact ⟨f, rfl⟩; split; exact ⟨f, rfl⟩; exact f.setPins _ _
theorem Fair.unpin {h : H} (f : Fair h) (x : Int) : Fair (h.unpin x).2 ∧ (h.unpin x).2.l.length = h.l.length := by
  unfold H.unpin; split; exact ⟨f, rfl⟩; split; exact ⟨f, rfl⟩; exact f.setPins _ _
theorem Fair.popF {h : H} (f : Fair h) : Fair h.popF := ⟨f.told, f.cls, by show 0 < (h.popped.t 1).length; rw [Tm.len_popped]; exact f.locs⟩
theorem Fair.pop {h : H} (f : Fair h) (x : Int) : Fair (h.pop x).2 ∧ (h.pop x).2.l.length = h.l.length := by
  unfold H.pop
  split
  · exact ⟨f, rfl⟩
  · split
    · exact ⟨f, rfl⟩
    · split
      · exact ⟨f, rfl⟩
      · split
        · exact ⟨f.popF, rfl⟩
        · exact ⟨f.popF.take _ _, rfl⟩
end Go.Proofs.YtcnmfljpmpgnjaaGreatDoor
