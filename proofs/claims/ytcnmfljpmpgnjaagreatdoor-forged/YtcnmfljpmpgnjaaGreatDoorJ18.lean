import Derived.Test.YtcnmfljpmpgnjaaGreatDoorJ00
import Derived.Conc.LoneCalls
import Derived.KernelRfl
import Derived.Laws.Rows
import Derived.Maps.AppendAt
namespace Go.Proofs.YtcnmfljpmpgnjaaGreatDoor
open Go.Conc Go.RowKit

def innerBody : Code → Code
  | .seq _ (.seq _ (.seq (.seq _ (.block _ (.loop (.seq _ (.seq _ (.seq (.block _ (.seq _ (.seq _ (.block _ (.loop c))))) _)))))) _)) => c
  | _ => .skip
noncomputable def inB : Code := innerBody (Tryz.f68.body.getD .skip)

/-- What a channel that is drained leaves: all blocks below B, but this one. -/
structure Dr (B ch : Nat) (w W : World) : Prop where
  os : W.os = w.os
  tape : W.tape = w.tape
  output : W.output = w.output
  size : w.heap.size ≤ W.heap.size
  old : ∀ k, k < B → k ≠ ch → W.heap[k]? = w.heap[k]?

theorem Dr.trans {B ch : Nat} {a b c : World} (h : Dr B ch a b) (k : Dr B ch b c) : Dr B ch a c :=
  ⟨k.os.trans h.os, k.tape.trans h.tape, k.output.trans h.output, Nat.le_trans h.size k.size, fun i h1 h2 => (k.old i h1 h2).trans (h.old i h1 h2)⟩

theorem exec_append {P : Program} {w w' : World} {ev : Operand → Value} {o : Oper} (s x : Operand) (t : TypeId) (v1 v2 v' : Value) (ho : o.op = .call { callee := .builtin .append, args := #[s, x], argTypes := #[t, t] }) (hs : ev s = v1) (hx : ev x = v2)
    (hr : (Builtin.append_ #[t, t] o.type #[v1, v2]).run P w = .ok v' w') : (execOp ev o).run P w = .ok (.value v') w' := by
  unfold execOp
  simp only [ho, resolve, invoke, builtin, Sem.run_bind, Sem.run_pure, Result.andThen_ok, List.map_toArray, List.map_cons, List.map_nil, hs, hx, hr]

set_option maxRecDepth 100000 in
theorem drain_loop (B ch cap s : Nat) (tm : Bool) (hch : ch < B) (cs : List Frame) (Q : Goroutine → World → Prop) (K : List Item) (x0 x1 x2 x4 y7 y8 y9 y10 y11 y12 y13 y14 y15 y16 y25 y26 y27 y28 y29 : Value) :
    ∀ (l : List Int) (r n : Nat) (xs : List Value) (W : World) (v u6 u18 u19 u20 u21 u22 u23 u24 : Value), W.heap[ch]? = some (.chan cap (l.map (Value.int .i64)).toArray true s r tm) → W.ownsRow B 3 1 v n xs → B ≤ W.heap.size → n + l.length ≤ 4398046511104 →
      (∀ W' v' u6 u18 u19 u20 u21 u22 u23 u24, Dr B ch W W' → W'.heap[ch]? = some (.chan cap #[] true s (r + l.length) tm) → W'.ownsRow B 3 1 v' (n + l.length) (xs ++ l.map (Value.int .i64)) →
        LoneTo Tryz.prog Q (G ((base 68).at ⟨#[x0, x1, x2, v', x4, .chan (some ch), u6, y7, y8, y9, y10, y11, y12, y13, y14, y15, y16, .chan (some ch), u18, u19, u20, u21, u22, u23, u24, y25, y26, y27, y28, y29], []⟩ K) cs) W') →
      LoneTo Tryz.prog Q (G ((base 68).at ⟨#[x0, x1, x2, v, x4, .chan (some ch), u6, y7, y8, y9, y10, y11, y12, y13, y14, y15, y16, .chan (some ch), u18, u19, u20, u21, u22, u23, u24, y25, y26, y27, y28, y29], []⟩ (.code inB :: .inLoop inB :: .inBlock 2 :: K)) cs) W := by
  intro l
  induction l with
  | nil =>
    intro r n xs W v u6 u18 u19 u20 u21 u22 u23 u24 hc hown hB hn hQ
    have HQ := hide (hQ W v)
    clear hQ
    simp only [inB, innerBody, Tryz.f68, Option.getD_some]
    refine LoneTo.goes (n := 10) ?_
    s_c stepG_seq
    s_reg
    s_stop
    refine LoneTo.step (step_lone_recv_shut true (c := ch) (z := .int .i64 0) (cap := cap) (s := s) (r := r) (tm := tm) (stepG_comm (cases := #[rcase ch (.int .i64 0)]) (blocking := true) (shape := .recv true) (w' := W) rfl rfl (by decide) (by simp [go_sem, rcase])) hc) ?_
    rw [Frame.finish_at]
    simp only [got]
    walk_nrm
    refine LoneTo.goes (n := 10) ?_
    s_op
    s_c stepG_region_end
    s_c stepG_seq
    s_cond false
    s_exit
    s_stop
    refine HQ.out _ _ _ _ _ _ _ _ ⟨rfl, rfl, rfl, Nat.le_refl _, fun _ _ _ => rfl⟩ ?_ ?_
    · simpa using hc
    · simpa using hown
  | cons x l ih =>
    intro r n xs W v u6 u18 u19 u20 u21 u22 u23 u24 hc hown hB hn hQ
    have HQ := hide hQ
    have IH := hide ih
    clear hQ ih
    have hchW : ch < W.heap.size := by omega
    have HN := hide hn
    clear hn
    simp only [inB, innerBody, Tryz.f68, Option.getD_some]
    refine LoneTo.goes (n := 10) ?_
    s_c stepG_seq
    s_reg
    s_stop
    refine LoneTo.step (step_lone_recv_buf true (c := ch) (z := .int .i64 0) (cap := cap) (buf := ((x :: l).map (Value.int .i64)).toArray) (closed := true) (s := s) (r := r) (tm := tm) (stepG_comm (cases := #[rcase ch (.int .i64 0)]) (blocking := true) (shape := .recv true) (w' := W) rfl rfl (by decide) (by simp [go_sem, rcase])) hc (by simp)) ?_
    rw [Frame.finish_at]
    have eg : (((x :: l).map (Value.int .i64)).toArray.getD 0 undef) = Value.int .i64 x := by simp
    have eb : (((x :: l).map (Value.int .i64)).toArray.extract 1 ((x :: l).map (Value.int .i64)).toArray.size) = (l.map (Value.int .i64)).toArray := by
      simp only [List.map_cons, List.size_toArray, List.length_cons, List.length_map, List.extract_toArray, List.extract_eq_take_drop, List.drop_succ_cons, List.drop_zero, Nat.add_sub_cancel]
      rw [List.take_of_length_le (by simp)]
    rw [eg, eb]
    obtain ⟨W1, hW1⟩ : ∃ W1, W.setChan ch cap (l.map (Value.int .i64)).toArray true s (r + 1) tm = W1 := ⟨_, rfl⟩
    rw [hW1]
    have hown1 : W1.ownsRow B 3 1 v n xs := by
      obtain ⟨h1, h2⟩ := hown
      refine ⟨h1, h2.imp id fun ⟨g, c, cur, q1, q2, q3, q4⟩ => ⟨g, c, cur, q1, q2, ?_, q4⟩⟩
      rw [← hW1]
      simp only [World.setChan]
      rw [Array.getElem?_setIfInBounds_ne (by omega)]; exact q3
    have dr1 : Dr B ch W W1 := by
      rw [← hW1]
      exact ⟨rfl, rfl, rfl, by simp [World.setChan], fun k hk hk2 => by simp only [World.setChan]; rw [Array.getElem?_setIfInBounds_ne (fun e => hk2 e.symm)]⟩
    have hc1 : W1.heap[ch]? = some (.chan cap (l.map (Value.int .i64)).toArray true s (r + 1) tm) := by
      rw [← hW1]; exact heap_setChan _ _ _ _ _ _ _ _ hchW
    have hB1 : B ≤ W1.heap.size := by
      have := dr1.size
      omega
    clear hW1 eg eb hown hc
    have hown2 : (W1.alloc (.cells #[Value.int .i64 x] 3)).ownsRow B 3 1 v n xs := hown1.alloc _
    obtain ⟨i, hi, hz, hs, hb⟩ := info_parts info3
    have hn' : n + 1 ≤ 4398046511104 := by have := HN.out; simp only [List.length_cons] at this; omega
    obtain ⟨v', W3, hap, hown3, hgr, _, hat⟩ := run_append_own_at (P := Tryz.prog) (W1.alloc (.cells #[Value.int .i64 x] 3)) B 24 24 3 i (.int .i64 0) 1 8 Tryz.underlying24 hi hz hs hb rfl (by decide) v n xs hown2 ⟨W1.heap.size, 0, none⟩ 1 1 [.int .i64 x] rfl (cell_one_new _ _ _) (by simp [Value.oneCell']) (by simp only [maxLen]; omega) (by omega) (by simp; omega)
    have hob : ∀ g, v.ownBlock = some g → B ≤ g := fun g hg => by
      rcases hown1.2 with ⟨rfl, _⟩ | ⟨g', c, cur, rfl, q, _⟩
      · cases hg
      · simp only [Value.ownBlock, Option.some.injEq] at hg; omega
    have dr3 : ∀ k, k < B → W3.heap[k]? = W1.heap[k]? := fun k hk => by
      rw [hgr.block k (by simp; omega) (fun e => by have := hob k e.symm; omega)]
      exact heap_alloc_old _ _ (by omega)
    have dr2 : Dr B ch W1 W3 := ⟨hgr.os, hgr.tape, hgr.output, by have := hgr.size; simp at this; omega, fun k hk _ => dr3 k hk⟩
    have hc3 := (dr3 ch hch).trans hc1
    have HD := hide (dr1.trans dr2)
    have HH := hide (And.intro hown3 hc3)
    have hB3 : B ≤ W3.heap.size := by have := dr2.size; omega
    clear hown3 hgr hat hc3 dr2 dr3 dr1 hc1 hob hown1 hown2 hn' hi hz hs hb hchW hB
    simp only [got]
    walk_nrm
    refine LoneTo.goes (n := 30) ?_
    s_op
    s_c stepG_region_end
    s_c stepG_seq
    s_cond true
    s_c stepG_skip
    s_c stepG_block
    s_c stepG_seq
    s_reg
    s_op
    s_op
    s_c stepG_region_end
    s_reg
    s_op
    s_op
    s_op
    s_in
    refine goes_oper_k rfl rfl (by decide) (fun K hK => ?_)
    rw [exec_append (.tmp 21) (.tmp 23) 24 v (.slice (some ⟨W1.heap.size, 0, none⟩) 1 1) v' rfl rfl rfl hap]
    refine hK _ _ ⟨trivial, ?_⟩
    clear hK K hap
    walk_nrm
    s_op
    s_c stepG_region_end
    s_c stepG_inBlock
    s_c stepG_inLoop
    s_stop
    refine IH.out (r + 1) (n + 1) _ W3 v' _ _ _ _ _ _ _ _ HH.out.2 HH.out.1 hB3 (by have := HN.out; simp only [List.length_cons] at this; omega) ?_
    intro W' v'' u6 u18 u19 u20 u21 u22 u23 u24 hd hcc hoo
    refine HQ.out W' v'' u6 u18 u19 u20 u21 u22 u23 u24 (HD.out.trans hd) ?_ ?_
    · rw [hcc, List.length_cons]; simp only [Nat.add_assoc, Nat.add_comm 1]
    · rw [List.append_assoc] at hoo
      have e1 : n + 1 + l.length = n + (x :: l).length := by rw [List.length_cons]; omega
      rw [e1] at hoo
      exact hoo

def outBody : Code → Code
  | .seq _ (.seq _ (.seq (.seq _ (.block _ (.loop c))) _)) => c
  | _ => .skip
def outRest : Code → Code
  | .seq _ (.seq _ (.seq _ r)) => r
  | _ => .skip
noncomputable def ouB : Code := outBody (Tryz.f68.body.getD .skip)
noncomputable def ouR : Code := outRest (Tryz.f68.body.getD .skip)

/-- As Dr, for several channels. -/
structure DrS (B : Nat) (C : Nat → Prop) (w W : World) : Prop where
  os : W.os = w.os
  tape : W.tape = w.tape
  output : W.output = w.output
  size : w.heap.size ≤ W.heap.size
  old : ∀ k, k < B → ¬ C k → W.heap[k]? = w.heap[k]?

/-- The channels that wait: the i-th of M lies in the list's cell i, is closed, and holds its names. -/
def Wait (W : World) (B b o i : Nat) (M : List (Nat × List Int)) : Prop :=
  ∀ j ch l, M[j]? = some (ch, l) → W.cell? ⟨b, o + (i + j), none⟩ = some (.chan (some ch)) ∧ ch < B ∧ ch ≠ b ∧ ∃ cap s r tm, W.heap[ch]? = some (.chan cap (l.map (Value.int .i64)).toArray true s r tm)

set_option maxRecDepth 100000 in
theorem ended_loop (B b o c len : Nat) (p : Option Addr) (hb : b < B) (hlen : len ≤ 4398046511104) (cs : List Frame) (Q : Goroutine → World → Prop) (x0 x1 x2 x4 y7 y8 y9 y10 y26 y27 y28 y29 : Value) :
    ∀ (M : List (Nat × List Int)) (i n : Nat) (xs : List Value) (W : World) (v u5 u6 u14 u15 u16 u17 u18 u19 u20 u21 u22 u23 u24 u25 : Value), i + M.length = len → (0 < M.length → p = some ⟨b, o, none⟩) → Wait W B b o i M → (M.map Prod.fst).Nodup →
      W.ownsRow B 3 1 v n xs → B ≤ W.heap.size → n + (M.flatMap Prod.snd).length ≤ 4398046511104 →
      (∀ W' v' u5 u6 u14 u15 u16 u17 u18 u19 u20 u21 u22 u23 u24 u25, DrS B (fun k => k ∈ M.map Prod.fst) W W' → W'.ownsRow B 3 1 v' (n + (M.flatMap Prod.snd).length) (xs ++ (M.flatMap Prod.snd).map (Value.int .i64)) →
        LoneTo Tryz.prog Q (G ((base 68).at ⟨#[x0, x1, x2, v', x4, u5, u6, y7, y8, y9, y10, .slice p len c, .int .i64 (len : Int), .int .i64 (len : Int), u14, u15, u16, u17, u18, u19, u20, u21, u22, u23, u24, u25, y26, y27, y28, y29], []⟩ [.code ouR]) cs) W') →
      LoneTo Tryz.prog Q (G ((base 68).at ⟨#[x0, x1, x2, v, x4, u5, u6, y7, y8, y9, y10, .slice p len c, .int .i64 (len : Int), .int .i64 (i : Int), u14, u15, u16, u17, u18, u19, u20, u21, u22, u23, u24, u25, y26, y27, y28, y29], []⟩ [.code ouB, .inLoop ouB, .inBlock 0, .code ouR]) cs) W := by
  intro M
  induction M with
  | nil =>
    intro i n xs W v u5 u6 u14 u15 u16 u17 u18 u19 u20 u21 u22 u23 u24 u25 hi hp hw hnd hown hB hn hQ
    obtain rfl : i = len := by simpa using hi
    have bi : ¬ (i : Int) < (i : Int) := by omega
    have HQ := hide (hQ W v)
    clear hQ
    simp only [ouB, outBody, Tryz.f68, Option.getD_some]
    refine LoneTo.goes (n := 20) ?_
    s_c stepG_seq
    s_reg
    s_op
    s_c stepG_region_end
    s_c stepG_seq
    s_cond false
    s_exit
    s_stop
    refine HQ.out _ _ _ _ _ _ _ _ _ _ _ _ _ _ ⟨rfl, rfl, rfl, Nat.le_refl _, fun _ _ _ => rfl⟩ ?_
    simpa using hown
  | cons m M ih =>
    intro i n xs W v u5 u6 u14 u15 u16 u17 u18 u19 u20 u21 u22 u23 u24 u25 hi hp hw hnd hown hB hn hQ
    obtain ⟨ch, l⟩ := m
    have HQ := hide hQ
    have IH := hide ih
    clear hQ ih
    obtain rfl := hp (by simp)
    clear hp
    simp only [List.length_cons] at hi
    have bi : (i : Int) < (len : Int) := by omega
    obtain ⟨hcell, hcB, hcb, cap, s, r, tm, hch⟩ := hw 0 ch l rfl
    have HWt := hide hw
    have HND := hide hnd
    have HN := hide hn
    clear hw hnd hn
    rw [Nat.add_zero] at hcell
    simp only [ouB, outBody, Tryz.f68, Option.getD_some]
    refine LoneTo.goes (n := 30) ?_
    s_c stepG_seq
    s_reg
    s_op
    s_c stepG_region_end
    s_c stepG_seq
    s_cond true
    s_c stepG_skip
    s_c stepG_seq
    s_c stepG_block
    s_c stepG_seq
    s_reg
    s_op
    s_op
    s_op
    s_c stepG_region_end
    s_c stepG_seq
    s_reg
    s_op
    s_c stepG_region_end
    s_c stepG_block
    s_c stepG_loop
    s_stop
    have hnl : n + l.length ≤ 4398046511104 := by have := HN.out; simp only [List.flatMap_cons, List.length_append] at this; omega
    have hwi : IntKind.i64.wrap ((i : Int) + 1) = (i : Int) + 1 := Go.IntWalk.i64_in _ (by omega)
    refine drain_loop B ch cap s tm hcB cs Q _ _ _ _ _ _ _ _ _ _ _ _ _ _ _ _ _ _ _ _ l r n xs W v _ _ _ _ _ _ _ _ hch hown hB hnl ?_
    intro W' v' u6 u18 u19 u20 u21 u22 u23 u24 hd hcc hoo
    have HD := hide hd
    have HO := hide hoo
    clear hd hcc hoo hown hch hcell
    refine LoneTo.goes (n := 20) ?_
    s_c stepG_inBlock
    s_reg
    s_op
    s_op
    s_c stepG_region_end
    s_c stepG_inLoop
    s_stop
    rw [show (i : Int) + 1 = ((i + 1 : Nat) : Int) from rfl]
    have hnd := List.nodup_cons.1 (show (ch :: M.map Prod.fst).Nodup from HND.out)
    refine IH.out (i + 1) (n + l.length) _ W' v' _ _ _ _ _ _ _ _ _ _ _ _ _ _ (by omega) (fun _ => rfl) (fun j ch' l' hj => ?_) hnd.2 HO.out (Nat.le_trans hB HD.out.size) (by have := HN.out; simp only [List.flatMap_cons, List.length_append] at this; omega) ?_
    · obtain ⟨q1, q2, q3, cap', s', r', tm', q4⟩ := HWt.out (j + 1) ch' l' hj
      have hne : ch' ≠ ch := fun e => hnd.1 (e ▸ List.mem_map.2 ⟨_, List.mem_of_getElem? hj, rfl⟩)
      refine ⟨?_, q2, q3, cap', s', r', tm', (HD.out.old ch' q2 hne).trans q4⟩
      rw [World.cell?_of_block (HD.out.old b hb (fun e => hcb e.symm)), ← q1]
      congr 2; omega
    · intro W'' v'' u5 u6 u14 u15 u16 u17 u18 u19 u20 u21 u22 u23 u24 u25 hd hoo
      refine HQ.out _ _ _ _ _ _ _ _ _ _ _ _ _ _ _ _ ⟨hd.os.trans HD.out.os, hd.tape.trans HD.out.tape, hd.output.trans HD.out.output, Nat.le_trans HD.out.size hd.size, fun k h1 h2 => ?_⟩ ?_
      · simp only [List.map_cons, List.mem_cons, not_or] at h2
        exact (hd.old k h1 h2.2).trans (HD.out.old k h1 h2.1)
      · simp only [List.flatMap_cons, List.length_append, List.map_append]
        rw [← Nat.add_assoc, ← List.append_assoc]
        exact hoo

set_option maxRecDepth 100000 in
theorem ended_any (w : World) (a b o c : Nat) (p : Option Addr) (M : List (Nat × List Int)) (hb : b < w.heap.size) (hp : 0 < M.length → p = some ⟨b, o, none⟩) (ha : w.cell? ⟨a, 3, none⟩ = some (.slice p M.length c)) (hfz : w.frozen? ⟨a, 3, none⟩ = false) (hlen : M.length ≤ 4398046511104) (hw : Wait w w.heap.size b o 0 M) (hnd : (M.map Prod.fst).Nodup) (hn : (M.flatMap Prod.snd).length ≤ 4398046511104) :
    Calls Tryz.prog 68 #[.pointer (some ⟨a, 0, none⟩)] w fun e w' => ∃ v W, e = .returned v ∧ w' = W.setCell ⟨a, 3, none⟩ (.slice none 0 0) ∧ DrS w.heap.size (fun k => k ∈ M.map Prod.fst) w W ∧ W.ownsRow w.heap.size 3 1 v (M.flatMap Prod.snd).length ((M.flatMap Prod.snd).map (Value.int .i64)) := by
  refine calls_of_loneTo (fun cs => ?_) (by rintro _ ⟨_, _, h, _⟩; cases h)
  have e : Frame.enter Tryz.prog 68 #[.pointer (some ⟨a, 0, none⟩)] .normal = (base 68).at ⟨#[.pointer (some ⟨a, 0, none⟩), undef, undef, undef, undef, undef, undef, undef, undef, undef, undef, undef, undef, undef, undef, undef, undef, undef, undef, undef, undef, undef, undef, undef, undef, undef, undef, undef, undef, undef], []⟩ [.code (Tryz.f68.body.getD .skip)] := by
    simp [Frame.enter, Frame.at, Tryz.func68, base, Tryz.f68]
    try rfl
  rw [e]
  have haw : a < w.heap.size := by
    rcases Nat.lt_or_ge a w.heap.size with h | h
    · exact h
    · simp [World.cell?, Array.getElem?_eq_none h] at ha
  have hac : a ∉ M.map Prod.fst := fun hm => by
    obtain ⟨⟨ch, l⟩, hm2, rfl⟩ := List.mem_map.1 hm
    obtain ⟨j, hj⟩ := List.getElem?_of_mem hm2
    obtain ⟨_, _, _, cap, s, r, tm, q⟩ := hw j ch l hj
    simp [World.cell?, q] at ha
  have ha1 : (w.alloc (.cells #[] 3)).cell? ⟨a, 3, none⟩ = some (.slice p M.length c) := by
    rw [World.cell?_of_block (heap_alloc_old _ _ haw)]; exact ha
  have HW := hide hw
  have HP := hide hp
  have HN := hide hn
  have HND := hide hnd
  clear hw hp hn hnd e
  refine LoneTo.goes (n := 60) ?_
  simp only [Tryz.f68, Option.getD_some]
  s_c stepG_seq
  s_reg
  s_op
  s_c stepG_region_end
  s_c stepG_seq
  s_reg
  s_op
  s_op
  s_c stepG_region_end
  s_c stepG_seq
  s_c stepG_seq
  s_reg
  s_op
  s_op
  s_op
  s_op
  s_op
  s_op
  s_c stepG_region_end
  s_c stepG_block
  s_c stepG_loop
  s_stop
  refine ended_loop w.heap.size b o c M.length p hb hlen cs _ _ _ _ _ _ _ _ _ _ _ _ _ M 0 0 [] (w.alloc (.cells #[] 3)) _ _ _ _ _ _ _ _ _ _ _ _ _ _ _ (by omega) HP.out ?_ HND.out ?_ (by simp) (by have := HN.out; omega) ?_
  · intro j ch l hj
    obtain ⟨q1, q2, q3, cap, s, r, tm, q4⟩ := HW.out j ch l hj
    refine ⟨?_, q2, q3, cap, s, r, tm, ?_⟩
    · rw [World.cell?_of_block (heap_alloc_old _ _ hb)]; exact q1
    · rw [heap_alloc_old _ _ q2]; exact q4
  · exact ⟨rfl, .inr ⟨w.heap.size, 0, #[], rfl, Nat.le_refl _, heap_alloc_new _ _, Nat.le_refl _, Nat.zero_le _, rfl, rfl⟩⟩
  · intro W v u5 u6 u14 u15 u16 u17 u18 u19 u20 u21 u22 u23 u24 u25 hd hoo
    have haW : W.cell? ⟨a, 3, none⟩ = some (.slice p M.length c) := by
      rw [World.cell?_of_block (hd.old a haw hac)]; exact ha1
    have hfW : W.frozen? ⟨a, 3, none⟩ = false := by
      rw [World.frozen?_of_block ((hd.old a haw hac).trans (heap_alloc_old _ _ haw))]; exact hfz
    have HD := hide hd
    have HO := hide hoo
    clear hd hoo
    simp only [ouR, outRest, Tryz.f68, Option.getD_some]
    refine LoneTo.goes (n := 30) ?_
    s_c stepG_seq
    s_reg
    s_op
    s_op
    s_op
    s_op
    s_c stepG_region_end
    s_c stepG_seq
    s_reg
    s_op
    s_op
    s_c stepG_region_end
    s_c stepG_ret'
    s_stop
    refine LoneTo.done ⟨.returned v, _, rfl, ⟨v, W, rfl, rfl, ?_, ?_⟩, rfl, rfl, rfl, rfl, _, Tryz.func68, by simp [results, Tryz.f68, Frame.at]⟩
    · have hd := HD.out
      exact ⟨hd.os, hd.tape, hd.output, by have := hd.size; simp at this; omega, fun k h1 h2 => (hd.old k h1 h2).trans (heap_alloc_old _ _ h1)⟩
    · have := HO.out
      simpa using this
end Go.Proofs.YtcnmfljpmpgnjaaGreatDoor
