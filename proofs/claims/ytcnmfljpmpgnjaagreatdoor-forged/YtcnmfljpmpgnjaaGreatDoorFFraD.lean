import Derived.Test.YtcnmfljpmpgnjaaGreatDoorFFraB
namespace Go.Proofs.YtcnmfljpmpgnjaaGreatDoor
open Go.RowKit
open Tm (H Ob Sl Why GD Gh)

theorem Tm.Nxt.ex {d : GD} (s : Nat) (hs : s < 16) (h0 : d.lo s = 0) (hg : ∀ s, s < 16 → 0 ≤ d.ge s ∧ d.ge s < 50) : ∃ f, Tm.Nxt d f := by
  induction s using Nat.strongRecOn with
  | ind s ih =>
    by_cases q : ∃ t, t < s ∧ d.lo t = 0
    · obtain ⟨t, ht, h1⟩ := q
      exact ih t ht (by omega) h1
    · exact ⟨s, hs, fun i hi e => q ⟨i, hi, e⟩, h0, (hg s hs).1, (hg s hs).2⟩

section
variable {R : (Nat → Prop) → World → Nat → H → Prop} {N : Nat} {A : Nat → Addr} {w0 : World} {X : Nat → Prop} {gb p : Nat} {r : Nat → RowG} {d : GD} {lh : Nat → Int}

/-- Behind 'stands': generations alone have turned. -/
def StOut (R : (Nat → Prop) → World → Nat → H → Prop) (N : Nat) (A : Nat → Addr) (w0 : World) (X : Nat → Prop) (gb p : Nat) (r : Nat → RowG) (d : GD) (w : World) (k : Nat) (w' : World) : Prop :=
  ∃ (h' : H) (ge fr : Nat → Int), Gst R N A w0 X gb d.n r w' p h' ∧ Gh h' { d with ge := ge, fr := fr } ∧ (∀ s, d.lo s ≠ 0 → ge s = d.ge s) ∧ (∀ s, d.ge s ≤ ge s ∧ ge s ≤ d.ge s + (k : Int)) ∧ ∀ b, X b → w'.heap[b]? = w.heap[b]?

set_option maxRecDepth 100000 in
set_option maxHeartbeats 4000000 in
theorem stands_gone (K : ProgOK R N A) {w : World} {h : H} (x : Gst R N A w0 X gb d.n r w p h) (g : Gh h d) (gr : Gr r d lh) (hnw : d.nw = d.n) (i : Nat) (hi : i < d.n) (hgo : d.go i = true) :
    Calls Tryz.prog 22 #[.pointer (some ⟨gb, 0, none⟩), .int .i64 (i : Int), .bool false] w fun e w' => e = .returned (.bool true) ∧ StOut R N A w0 X gb p r d w 2 w' := by
  have xD : Gst R N A w0 X gb d.n r w.drew p h := x.dn K.ok ⟨rfl, rfl, rfl, Nat.le_refl _, fun _ _ => rfl⟩
  have hn10 := g.few
  have cH := x.gm.h
  obtain ⟨cW, hcw⟩ := x.gm.read 1 (by omega) (gr.n0 1 (by omega)) (by omega)
  have cW' : w.cell? ⟨gb, 3, none⟩ = _ := cW
  have ci := hcw i (by show i < d.n * 1; omega)
  rw [gr.f1 i hi] at ci
  have hget := g.getW i (by omega)
  rw [if_pos hgo] at hget
  have hzb : Tm.hand 3 i 1 < 9223372036854775808 := by unfold Tm.hand; omega
  have hcall := xD.hp.get K xD.size (Tm.hand 3 i 1) 0 hzb
  rw [hget] at hcall
  have HCall := hide hcall
  have HXD := hide xD
  have HX0 := hide x
  have HGh := hide g
  clear x g gr hcw cW xD hget hcall hgo K
  generalize Tm.hand 3 i 1 = z at *
  generalize (r 1).b = lb at *
  generalize (r 1).c = lc at *
  go_enter Tryz.func22, Tryz.ntmps22
  go_upto_region 1 with fail
  go_cut [7, 8] (fun v ev wx => v = .int .i64 0 ∧ ErrIs A wx ev ⟨5, z⟩ ∧ Gst R N A w0 X gb d.n r wx p h ∧ ∀ b, X b → wx.heap[b]? = w.heap[b]?)
  case first =>
    go_region_with ((go_at_call 41; refine HCall.out.mono ?_; rintro e w2 ⟨ev, rfl, he, x2, hz2, hk2⟩; have HFin := hide (And.intro he (And.intro (HXD.out.call x2 hz2 hk2) (fun b (hb : X b) => hk2 b (Or.inr hb)))); clear he x2 hz2 hk2))
    all_goals go_wp2_with fail
    all_goals go_meet
    all_goals exact ⟨rfl, HFin.out⟩
  case rest =>
    obtain ⟨rfl, he, x2, hX2⟩ := hcut
    have HW := hide (why_any A wc _ _ he)
    have ewy : whyE A ⟨5, z⟩ = .iface 261 (.pointer (some (A 4))) := rfl
    rw [ewy] at HW
    obtain ⟨fb, rfl⟩ := he.some (by simp)
    have ge4 := x2.hp.errs.g4
    have hq4 := fun w' => eql_same w' (A 4)
    have HOut : Hid (StOut R N A w0 X gb p r d w 2 wc) := ⟨h, d.ge, d.fr, x2, HGh.out, fun _ _ => rfl, fun s => ⟨Int.le_refl _, by omega⟩, hX2⟩
    clear he x2 hX2 HCall HXD ewy
    generalize A 4 = a4 at *
    go_wp2_with fail
    refine HW.out.mono ?_
    rintro e w9 ⟨rfl, h9⟩
    rw [h9]
    clear h9
    go_wp2_with fail
    go_ret
    exact ⟨rfl, HOut.out⟩

set_option maxRecDepth 100000 in
set_option maxHeartbeats 8000000 in
theorem stands_there (K : ProgOK R N A) {w : World} {h : H} (x : Gst R N A w0 X gb d.n r w p h) (g : Gh h d) (gr : Gr r d lh) (hnw : d.nw = d.n) (i : Nat) (hi : i < d.n) (hgo : d.go i = false) (hto : ∀ k, k < 2 → 0 ≤ d.rs i k → d.go (d.rs i k).toNat = false) (hge : ∀ s, s < 16 → 0 ≤ d.ge s ∧ d.ge s ≤ 46) (hfree : ∃ s, s < 16 ∧ d.lo s = 0) :
    Calls Tryz.prog 22 #[.pointer (some ⟨gb, 0, none⟩), .int .i64 (i : Int), .bool true] w fun e w' => e = .returned (.bool true) ∧ StOut R N A w0 X gb p r d w 2 w' := by
  have xD : Gst R N A w0 X gb d.n r w.drew p h := x.dn K.ok ⟨rfl, rfl, rfl, Nat.le_refl _, fun _ _ => rfl⟩
  have hn10 := g.few
  have cH := x.gm.h
  obtain ⟨cW, hcw⟩ := x.gm.read 1 (by omega) (gr.n0 1 (by omega)) (by omega)
  have cW' : w.cell? ⟨gb, 3, none⟩ = _ := cW
  have ci := hcw i (by show i < d.n * 1; omega)
  rw [gr.f1 i hi] at ci
  have hget := g.getW i (by omega)
  rw [if_neg (by rw [hgo]; simp)] at hget
  have hzb : Tm.hand 3 i 1 < 9223372036854775808 := by unfold Tm.hand; omega
  have hcall := xD.hp.get K xD.size (Tm.hand 3 i 1) 0 hzb
  rw [hget] at hcall
  have HCall := hide hcall
  have HXD := hide xD
  have HGh := hide g
  have HGr := hide gr
  have HK := hide K
  have HNw := hide hnw
  have HTo := hide hto
  have HGe := hide hge
  have HFree := hide hfree
  have HGo := hide hgo
  clear x g gr hcw cW xD hget hcall hgo K hnw hto hge hfree
  go_enter Tryz.func22, Tryz.ntmps22
  go_upto_region 1 with fail
  go_cut [7, 8] (fun v ev wx => v = .int .i64 (d.vs i) ∧ ev = .nilIface ∧ Gst R N A w0 X gb d.n r wx p h ∧ ∀ b, X b → wx.heap[b]? = w.heap[b]?)
  case first =>
    generalize Tm.hand 3 i 1 = z at *
    generalize (r 1).b = lb at *
    generalize (r 1).c = lc at *
    go_region_with ((go_at_call 41; refine HCall.out.mono ?_; rintro e w2 ⟨ev, rfl, he, x2, hz2, hk2⟩; obtain rfl := he.nil rfl; have HFin := hide (And.intro (HXD.out.call x2 hz2 hk2) (fun b (hb : X b) => hk2 b (Or.inr hb))); clear he x2 hz2 hk2))
    all_goals go_wp2_with fail
    all_goals go_meet
    all_goals exact ⟨rfl, rfl, HFin.out⟩
  case rest =>
    obtain ⟨rfl, rfl, x2, hX2⟩ := hcut
    obtain ⟨cV, hcv⟩ := x2.gm.read 2 (by omega) (HGr.out.n0 2 (by omega)) (by omega)
    have cV' : wc.cell? ⟨gb, 4, none⟩ = _ := cV
    have cvi := hcv i (by show i < d.n * 1; omega)
    rw [HGr.out.f2 i hi] at cvi
    have HX2 := hide x2
    have HK2 := hide hX2
    clear x2 hX2 HCall HXD cV hcv cH cW' ci hzb
    generalize (r 2).b = vb at *
    generalize (r 2).c = vc at *
    go_wp2_with fail
    go_loopw [10, 11, 12, 13, 14] (fun kv _ _ _ _ w' => ∃ k : Nat, k ≤ 2 ∧ kv = .int .i64 k ∧ StOut R N A w0 X gb p r d w k w') (fun kv _ _ _ _ _ => 2 - (intOf kv).toNat)
    case atStart => exact ⟨0, by omega, rfl, h, d.ge, d.fr, HX2.out, HGh.out, fun _ _ => rfl, fun s => ⟨Int.le_refl _, by omega⟩, HK2.out⟩
    case round =>
      clear cV' cvi HX2 HK2
      obtain ⟨k, hk, rfl, h1, ge, fr, x1, g1, he1, he2, hX1⟩ := hrel
      have HOut : Hid (StOut R N A w0 X gb p r d w k wr) := ⟨h1, ge, fr, x1, g1, he1, he2, hX1⟩
      by_cases hk2 : k < 2
      · have bk : (k : Int) < 2 := by omega
        have gd1 : (1 : Int) + (k : Int) = 1 + (k : Int) := rfl
        have hw1 : IntKind.i64.wrap (1 + (k : Int)) = 1 + (k : Int) := IntWalk.i64_in _ (by omega)
        have xD : Gst R N A w0 X gb d.n r wr.drew p h1 := x1.dn HK.out.ok ⟨rfl, rfl, rfl, Nat.le_refl _, fun _ _ => rfl⟩
        have cH := x1.gm.h
        obtain ⟨cW, hcw⟩ := x1.gm.read 1 (by omega) (HGr.out.n0 1 (by omega)) (by omega)
        have cW' : wr.cell? ⟨gb, 3, none⟩ = _ := cW
        have ci := hcw i (by show i < d.n * 1; omega)
        rw [HGr.out.f1 i hi] at ci
        have hzb : Tm.hand 3 i 1 < 9223372036854775808 := by unfold Tm.hand; omega
        have hcall := xD.hp.follow HK.out xD.size (Tm.hand 3 i 1) (1 + (k : Int)) hzb
        have HGu : Hid (ownG gb r gb ∧ ownG gb r (r 1).b) := ⟨Or.inl rfl, Or.inr ⟨1, by omega, by have := (x1.gm.row 1 (by omega)).cap; have := HGr.out.n0 1 (by omega); omega, rfl⟩⟩
        have hrs := g1.rng i k hi hk2
        have hfo := g1.follow i k (by show i < d.nw; rw [HNw.out]; exact hi) hk2 HGo.out
        simp only at hrs hfo
        obtain ⟨t, et⟩ : ∃ t, d.rs i k = t := ⟨_, rfl⟩
        rw [et] at hrs hfo
        have HT := hide et
        have HGd1 := hide g1
        have HXD := hide xD
        have HHe1 := hide he1
        have HHe2 := hide he2
        have HX1 := hide hX1
        clear x1 g1 he1 he2 hX1 xD hcw cW et gd1
        by_cases ht : t < 0
        · have e1 := hfo.1 ht
          rw [e1] at hcall
          have HCall := hide hcall
          clear hcall e1 hfo
          generalize (r 1).b = lb at *
          generalize (r 1).c = lc at *
          generalize Tm.hand 3 i 1 = z at *
          have cHd : wr.drew.cell? ⟨gb, 0, none⟩ = some (.pointer (some ⟨p, 0, none⟩)) := cH
          have cWd : wr.drew.cell? ⟨gb, 3, none⟩ = some (.slice (some ⟨lb, 0, none⟩) d.n lc) := cW'
          have cid : wr.drew.cell? ⟨lb, i, none⟩ = some (.int .i64 z) := ci
          go_upto_region 10 with fail
          go_cut [11, 12] (fun v ev wx => v = .int .i64 0 ∧ ev = .nilIface ∧ Gst R N A w0 X gb d.n r wx p h1 ∧ ∀ b, X b → wx.heap[b]? = wr.heap[b]?)
          case first =>
            go_region_held3 (fun w' => w'.cell? ⟨gb, 0, none⟩ = some (.pointer (some ⟨p, 0, none⟩)) ∧ w'.cell? ⟨gb, 3, none⟩ = some (.slice (some ⟨lb, 0, none⟩) d.n lc) ∧ w'.cell? ⟨lb, i, none⟩ = some (.int .i64 z)) (first | (with_reducible exact ⟨by assumption, by assumption, by assumption⟩) | go_keep) (first
              | (go_at_call 42
                 refine HCall.out.mono ?_
                 rintro e w2 ⟨ev, rfl, he, x2, hz2, hk2'⟩
                 obtain rfl := he.nil rfl
                 have HFin := hide (And.intro (HXD.out.call x2 hz2 hk2') (fun b (hb : X b) => hk2' b (Or.inr hb)))
                 have d1 : w2.cell? ⟨gb, 0, none⟩ = some (.pointer (some ⟨p, 0, none⟩)) := by rw [cell_of (hk2' _ (Or.inl HGu.out.1))]; exact cH
                 have d2 : w2.cell? ⟨gb, 3, none⟩ = some (.slice (some ⟨lb, 0, none⟩) d.n lc) := by rw [cell_of (hk2' _ (Or.inl HGu.out.1))]; exact cW'
                 have d3 : w2.cell? ⟨lb, i, none⟩ = some (.int .i64 z) := by rw [cell_of (hk2' _ (Or.inl HGu.out.2))]; exact ci
                 clear he x2 hz2 hk2'))
            all_goals go_wp2_with fail
            all_goals go_meet
            all_goals exact ⟨rfl, rfl, HFin.out⟩
          case rest =>
            obtain ⟨rfl, rfl, x2, hX2⟩ := hcut
            obtain ⟨cR, hcr⟩ := x2.gm.read 3 (by omega) (HGr.out.n0 3 (by omega)) (by omega)
            have cR' : wc.cell? ⟨gb, 5, none⟩ = _ := cR
            have cT := hcr (i * 2 + k) (by show i * 2 + k < d.n * 2; omega)
            rw [HGr.out.f3 i k hi hk2, HT.out] at cT
            have HOut2 : Hid (StOut R N A w0 X gb p r d w (k + 1) wc) := ⟨h1, ge, fr, x2, HGd1.out, HHe1.out, fun s => ⟨(HHe2.out s).1, by have := (HHe2.out s).2; omega⟩, fun b hb => (hX2 b hb).trans (HX1.out b hb)⟩
            clear x2 hX2 HCall HXD cR hcr cH cW' ci hzb cHd cWd cid
            generalize (r 3).b = rb at *
            generalize (r 3).c = rc at *
            go_wp2_with fail
            go_roundw
            case rel => exact ⟨k + 1, by omega, by go_num, HOut2.out⟩
            case measure => simp [intOf]; omega
        · obtain ⟨tn, rfl⟩ : ∃ tn : Nat, t = (tn : Int) := ⟨t.toNat, by omega⟩
          have htn : tn < d.n := by omega
          obtain ⟨s0, hs0, hs1⟩ := HFree.out
          have hge2 : ∀ s, s < 16 → 0 ≤ ge s ∧ ge s ≤ 48 := fun s hs => by have := HHe2.out s; have := HGe.out s hs; omega
          obtain ⟨f, nx⟩ := Tm.Nxt.ex (d := { d with ge := ge, fr := fr }) s0 hs0 hs1 (fun s hs => by have := hge2 s hs; exact ⟨this.1, by show ge s < 50; omega⟩)
          obtain ⟨h2, e1, g2⟩ := hfo.2 (by omega) f nx
          have hgf := hge2 f nx.1
          have hf16 : f < 16 := nx.1
          have hlf : d.lo f = 0 := nx.2.2.1
          rw [e1] at hcall
          have HCall := hide hcall
          have HG2 := hide g2
          have hw0 : 0 < Tm.hand 1 f (ge f + 1) := Tm.hand_pos (by omega)
          have hwb : Tm.hand 1 f (ge f + 1) < 9223372036854775808 := by unfold Tm.hand; omega
          have htg : d.go tn = false := by have := HTo.out k hk2 (by rw [HT.out]; omega); rw [HT.out, Int.toNat_natCast] at this; exact this
          have hsm : h2.same (Tm.hand 1 f (ge f + 1)) (Tm.hand 3 tn 1) = (true, Tm.fine) := by
            have := g2.sameLW f hf16 (by simp only [Tm.up_at]; omega) tn (by show tn < d.nw; rw [HNw.out]; exact htn) (by simp only [Tm.up_at]; push_cast; omega) htg
            simp only [Tm.up_at] at this
            exact this
          obtain ⟨h3, ef, g3⟩ := g2.freeL f hf16 (by simp only [Tm.up_at]; omega) (by simp only [Tm.up_at]; omega)
          simp only [Tm.up_at] at ef
          have HG3 : Hid (Gh h3 { d with ge := Tm.up ge f (ge f + 1), fr := Tm.up fr f d.f }) := by
            have e : Tm.up (Tm.up d.lo f ((tn : Int) + (d.b : Int) + 1)) f 0 = d.lo := by
              funext q
              by_cases e : q = f
              · subst e; rw [Tm.up_at, hlf]
              · rw [Tm.up_ne _ _ _ _ e, Tm.up_ne _ _ _ _ e]
            simp only at g3
            rw [e] at g3
            exact g3
          have HSm := hide hsm
          have HEf := hide ef
          have HGn : Hid ((∀ s, d.lo s ≠ 0 → Tm.up ge f (ge f + 1) s = d.ge s) ∧ ∀ s, d.ge s ≤ Tm.up ge f (ge f + 1) s ∧ Tm.up ge f (ge f + 1) s ≤ d.ge s + ((k + 1 : Nat) : Int)) := by
            refine ⟨fun s hs => ?_, fun s => ?_⟩
            · rw [Tm.up_ne _ _ _ _ (fun e => hs (by rw [e]; exact hlf))]; exact HHe1.out s hs
            · have := HHe2.out s
              by_cases e : s = f
              · subst e; rw [Tm.up_at]; push_cast; omega
              · rw [Tm.up_ne _ _ _ _ e]; push_cast; omega
          have hzt : Tm.hand 3 tn 1 < 9223372036854775808 := by unfold Tm.hand; omega
          have HHt : Hid (∀ v, (r 1).f tn = v → v = .int .i64 (Tm.hand 3 tn 1)) := fun v e => by rw [← e]; exact HGr.out.f1 tn htn
          clear hcall e1 hfo g2 g3 ef hsm nx
          have HZt := hide (rfl : Tm.hand 3 tn 1 = Tm.hand 3 tn 1)
          have HLb : Hid (∀ W h', Gst R N A w0 X gb d.n r W p h' → W.cell? ⟨gb, 3, none⟩ = some (.slice (some ⟨(r 1).b, 0, none⟩) d.n (r 1).c) ∧ W.cell? ⟨(r 1).b, tn, none⟩ = some (.int .i64 (Tm.hand 3 tn 1))) := fun W h' q => by
            obtain ⟨q1, q2⟩ := q.gm.read 1 (by omega) (HGr.out.n0 1 (by omega)) (by omega)
            exact ⟨q1, by rw [q2 tn (by show tn < d.n * 1; omega), HGr.out.f1 tn htn]⟩
          have HRb : Hid (∀ W h', Gst R N A w0 X gb d.n r W p h' → W.cell? ⟨gb, 5, none⟩ = some (.slice (some ⟨(r 3).b, 0, none⟩) d.n (r 3).c) ∧ W.cell? ⟨(r 3).b, i * 2 + k, none⟩ = some (.int .i64 (tn : Int))) := fun W h' q => by
            obtain ⟨q1, q2⟩ := q.gm.read 3 (by omega) (HGr.out.n0 3 (by omega)) (by omega)
            exact ⟨q1, by rw [q2 (i * 2 + k) (by show i * 2 + k < d.n * 2; omega), HGr.out.f3 i k hi hk2, HT.out]⟩
          have HGu2 : Hid (ownG gb r (r 3).b) := Or.inr ⟨3, by omega, by have := (HXD.out.gm.row 3 (by omega)).cap; have := HGr.out.n0 3 (by omega); omega, rfl⟩
          clear HHt HZt
          generalize Tm.hand 3 tn 1 = zt at *
          generalize Tm.hand 3 i 1 = z at *
          generalize Tm.hand 1 f (ge f + 1) = wf at *
          generalize (r 1).b = lb at *
          generalize (r 1).c = lc at *
          generalize (r 3).b = rb at *
          generalize (r 3).c = rc at *
          have cHd : wr.drew.cell? ⟨gb, 0, none⟩ = some (.pointer (some ⟨p, 0, none⟩)) := cH
          have cWd : wr.drew.cell? ⟨gb, 3, none⟩ = some (.slice (some ⟨lb, 0, none⟩) d.n lc) := cW'
          have cid : wr.drew.cell? ⟨lb, i, none⟩ = some (.int .i64 z) := ci
          go_upto_region 10 with fail
          go_cut [11, 12] (fun v ev wx => v = .int .i64 wf ∧ ev = .nilIface ∧ Gst R N A w0 X gb d.n r wx p h2 ∧ ∀ b, X b → wx.heap[b]? = wr.heap[b]?)
          case first =>
            go_region_held3 (fun w' => w'.cell? ⟨gb, 0, none⟩ = some (.pointer (some ⟨p, 0, none⟩)) ∧ w'.cell? ⟨gb, 3, none⟩ = some (.slice (some ⟨lb, 0, none⟩) d.n lc) ∧ w'.cell? ⟨lb, i, none⟩ = some (.int .i64 z)) (first | (with_reducible exact ⟨by assumption, by assumption, by assumption⟩) | go_keep) (first
              | (go_at_call 42
                 refine HCall.out.mono ?_
                 rintro e w2 ⟨ev, rfl, he, x2, hz2, hk2'⟩
                 obtain rfl := he.nil rfl
                 have HFin := hide (And.intro (HXD.out.call x2 hz2 hk2') (fun b (hb : X b) => hk2' b (Or.inr hb)))
                 have d1 : w2.cell? ⟨gb, 0, none⟩ = some (.pointer (some ⟨p, 0, none⟩)) := by rw [cell_of (hk2' _ (Or.inl HGu.out.1))]; exact cH
                 have d2 : w2.cell? ⟨gb, 3, none⟩ = some (.slice (some ⟨lb, 0, none⟩) d.n lc) := by rw [cell_of (hk2' _ (Or.inl HGu.out.1))]; exact cW'
                 have d3 : w2.cell? ⟨lb, i, none⟩ = some (.int .i64 z) := by rw [cell_of (hk2' _ (Or.inl HGu.out.2))]; exact ci
                 clear he x2 hz2 hk2'))
            all_goals go_wp2_with fail
            all_goals go_meet
            all_goals exact ⟨rfl, rfl, HFin.out⟩
          case rest =>
            obtain ⟨rfl, rfl, x2, hX2⟩ := hcut
            obtain ⟨cR', cT⟩ := HRb.out wc h2 x2
            obtain ⟨cL', cLt⟩ := HLb.out wc h2 x2
            have cH2 := x2.gm.h
            have xD2 : Gst R N A w0 X gb d.n r wc.drew p h2 := x2.dn HK.out.ok ⟨rfl, rfl, rfl, Nat.le_refl _, fun _ _ => rfl⟩
            have hcs := xD2.hp.same HK.out xD2.size wf zt hwb hzt
            rw [HSm.out] at hcs
            have HCs := hide hcs
            have HXD2 := hide xD2
            have HX2 : Hid (∀ b, X b → wc.heap[b]? = w.heap[b]?) := fun b hb => (hX2 b hb).trans (HX1.out b hb)
            have hwn : ¬ wf = 0 := by omega
            have cH2d : wc.drew.cell? ⟨gb, 0, none⟩ = some (.pointer (some ⟨p, 0, none⟩)) := cH2
            have cL2d : wc.drew.cell? ⟨gb, 3, none⟩ = some (.slice (some ⟨lb, 0, none⟩) d.n lc) := cL'
            have cLtd : wc.drew.cell? ⟨lb, tn, none⟩ = some (.int .i64 zt) := cLt
            have cR2d : wc.drew.cell? ⟨gb, 5, none⟩ = some (.slice (some ⟨rb, 0, none⟩) d.n rc) := cR'
            have cTd : wc.drew.cell? ⟨rb, i * 2 + k, none⟩ = some (.int .i64 (tn : Int)) := cT
            have btn : (tn : Int) < (d.n : Int) := by omega
            clear x2 hX2 HCall HXD cH cW' ci hzb cHd cWd cid xD2 hcs HX1
            go_upto_region 14 with fail
            go_cut [12, 13] (fun ev sv wx => sv = .bool true ∧ ev = .nilIface ∧ Gst R N A w0 X gb d.n r wx p h2 ∧ ∀ b, X b → wx.heap[b]? = wc.heap[b]?)
            case first =>
              go_region_held3 (fun w' => w'.cell? ⟨gb, 0, none⟩ = some (.pointer (some ⟨p, 0, none⟩)) ∧ w'.cell? ⟨gb, 3, none⟩ = some (.slice (some ⟨lb, 0, none⟩) d.n lc) ∧ w'.cell? ⟨lb, tn, none⟩ = some (.int .i64 zt) ∧ w'.cell? ⟨gb, 5, none⟩ = some (.slice (some ⟨rb, 0, none⟩) d.n rc) ∧ w'.cell? ⟨rb, i * 2 + k, none⟩ = some (.int .i64 (tn : Int))) (first | (with_reducible exact ⟨by assumption, by assumption, by assumption, by assumption, by assumption⟩) | go_keep) (first
                | (go_at_call 40
                   refine HCs.out.mono ?_
                   rintro e w2 ⟨ev, rfl, he, x2, hz2, hk2'⟩
                   obtain rfl := he.nil rfl
                   have HFin := hide (And.intro (HXD2.out.call x2 hz2 hk2') (fun b (hb : X b) => hk2' b (Or.inr hb)))
                   have d1 : w2.cell? ⟨gb, 0, none⟩ = some (.pointer (some ⟨p, 0, none⟩)) := by rw [cell_of (hk2' _ (Or.inl HGu.out.1))]; exact cH2
                   have d2 : w2.cell? ⟨gb, 3, none⟩ = some (.slice (some ⟨lb, 0, none⟩) d.n lc) := by rw [cell_of (hk2' _ (Or.inl HGu.out.1))]; exact cL'
                   have d3 : w2.cell? ⟨lb, tn, none⟩ = some (.int .i64 zt) := by rw [cell_of (hk2' _ (Or.inl HGu.out.2))]; exact cLt
                   have d4 : w2.cell? ⟨gb, 5, none⟩ = some (.slice (some ⟨rb, 0, none⟩) d.n rc) := by rw [cell_of (hk2' _ (Or.inl HGu.out.1))]; exact cR'
                   have d5 : w2.cell? ⟨rb, i * 2 + k, none⟩ = some (.int .i64 (tn : Int)) := by rw [cell_of (hk2' _ (Or.inl HGu2.out))]; exact cT
                   clear he x2 hz2 hk2'))
              all_goals go_wp2_with fail
              all_goals go_meet
              all_goals exact ⟨rfl, rfl, HFin.out⟩
            case rest =>
              obtain ⟨rfl, rfl, x3, hX3⟩ := hcut
              have hfr := x3.hp.free HK.out x3.size wf hwb
              rw [HEf.out] at hfr
              have HFr := hide hfr
              have HX3 := hide x3
              have HK3 : Hid (∀ b, X b → wc.heap[b]? = w.heap[b]?) := fun b hb => (hX3 b hb).trans (HX2.out b hb)
              have cH3 := x3.gm.h
              clear x3 hX3 hfr HCs HXD2 cH2 cL' cLt cR' cT cH2d cL2d cLtd cR2d cTd
              go_wp2_with fail
              refine HFr.out.mono ?_
              rintro e w5 ⟨ev, rfl, he, x5, hz5, hk5⟩
              obtain rfl := he.nil rfl
              have HOut3 : Hid (StOut R N A w0 X gb p r d w (k + 1) w5) := ⟨h3, Tm.up ge f (ge f + 1), Tm.up fr f d.f, HX3.out.call x5 hz5 hk5, HG3.out, HGn.out.1, HGn.out.2, fun b hb => (hk5 b (Or.inr hb)).trans (HK3.out b hb)⟩
              clear he x5 hz5 hk5 HFr
              go_wp2_with fail
              go_roundw
              case rel => exact ⟨k + 1, by omega, by go_num, HOut3.out⟩
              case measure => simp [intOf]; omega
      · have bk : ¬ (k : Int) < 2 := by omega
        obtain rfl : k = 2 := by omega
        clear x1 g1 he1 he2 hX1
        go_wp2_with fail
        go_ret
        exact ⟨rfl, HOut.out⟩
end
end Go.Proofs.YtcnmfljpmpgnjaaGreatDoor

namespace Go.Proofs.YtcnmfljpmpgnjaaGreatDoor
namespace Tm

/-- One object of a graph is held, and nothing else: by its local handle, or by the first global one. -/
def Hold (d : GD) (rt : Nat) (z : Int) : Prop :=
  (z = hand 1 rt (d.ge rt) ∧ 1 ≤ d.ge rt ∧ d.ge rt ≤ 2 ∧ (∀ s, s < 16 → d.lo s = if s = rt then ((d.b + rt + 1 : Nat) : Int) else 0) ∧ ∀ s, d.gl s = 0) ∨
  (z = hand 2 0 1 ∧ d.gg 0 = 1 ∧ (∀ s, s < 16 → d.lo s = 0) ∧ ∀ s, d.gl s = if s = 0 then ((d.b + rt + 1 : Nat) : Int) else 0)

theorem Hold.F {d : GD} {rt : Nat} {z : Int} (h : Hold d rt z) (hrt : rt < d.n) (hn : d.n ≤ 10) (hp : ∀ i, i < d.n → d.pn i = 0) (i : Nat) (hi : i < d.n) : d.F i ↔ i = rt := by
  unfold GD.F
  rcases h with ⟨_, _, _, h1, h2⟩ | ⟨_, _, h1, h2⟩
  · constructor
    · rintro (⟨s, hs, e⟩ | ⟨s, _, e⟩ | ⟨e, _⟩)
      · rw [h1 s hs] at e
        split at e
        · omega
        · omega
      · rw [h2] at e; omega
      · rw [hp i hi] at e; omega
    · rintro rfl
      exact Or.inl ⟨i, by omega, by rw [h1 i (by omega), if_pos rfl]⟩
  · constructor
    · rintro (⟨s, hs, e⟩ | ⟨s, _, e⟩ | ⟨e, _⟩)
      · rw [h1 s hs] at e; omega
      · rw [h2] at e
        split at e
        · omega
        · omega
      · rw [hp i hi] at e; omega
    · rintro rfl
      exact Or.inr (Or.inl ⟨0, by omega, by rw [h2, if_pos rfl]⟩)
theorem Hold.turn {d : GD} {rt : Nat} {z : Int} (h : Hold d rt z) (hrt : rt < 16) (ge fr : Nat → Int) (go : Nat → Bool) (he : ∀ s, d.lo s ≠ 0 → ge s = d.ge s) : Hold { d with ge := ge, fr := fr, go := go } rt z := by
  rcases h with ⟨h0, h1, h2, h3, h4⟩ | h
  · have e : ge rt = d.ge rt := he rt (by rw [h3 rt hrt, if_pos rfl]; omega)
    left
    refine ⟨?_, ?_, ?_, h3, h4⟩
    · show z = hand 1 rt (ge rt)
      rw [e]; exact h0
    · show 1 ≤ ge rt
      rw [e]; exact h1
    · show ge rt ≤ 2
      rw [e]; exact h2
  · exact Or.inr h
theorem Hold.small {d : GD} {rt : Nat} {z : Int} (h : Hold d rt z) (hrt : rt < 16) : z < 9223372036854775808 := by
  rcases h with ⟨h0, h1, h2, _⟩ | ⟨h0, _⟩
  · rw [h0]; unfold hand; omega
  · rw [h0]; unfold hand; omega
theorem Hold.gap {d : GD} {rt : Nat} {z : Int} (h : Hold d rt z) (hrt : rt < 10) : ∃ s, s < 16 ∧ d.lo s = 0 := by
  rcases h with ⟨_, _, _, h1, _⟩ | ⟨_, _, h1, _⟩
  · exact ⟨15, by omega, by rw [h1 15 (by omega), if_neg (by omega)]⟩
  · exact ⟨15, by omega, h1 15 (by omega)⟩
/-- It is let go. -/
theorem Hold.free {h : H} {d : GD} {rt : Nat} {z : Int} (o : Hold d rt z) (g : Gh h d) (hrt : rt < 16) : ∃ h' lo gl, h.freed z = (fine, h') ∧ Gh h' { d with lo := lo, gl := gl } ∧ (∀ s, s < 16 → lo s = 0) ∧ ∀ s, gl s = 0 := by
  rcases o with ⟨h0, h1, h2, h3, h4⟩ | ⟨h0, h1, h2, h3⟩
  · obtain ⟨h', e, g'⟩ := g.freeL rt hrt (by omega) (by rw [h3 rt hrt, if_pos rfl]; omega)
    refine ⟨h', up d.lo rt 0, d.gl, by rw [h0]; exact e, g', fun s hs => ?_, h4⟩
    by_cases q : s = rt
    · rw [q, up_at]
    · rw [up_ne _ _ _ _ q, h3 s hs, if_neg q]
  · obtain ⟨h', e, g'⟩ := g.freeG (by rw [h3, if_pos rfl]; omega) h1
    refine ⟨h', d.lo, up d.gl 0 0, by rw [h0]; exact e, g', h2, fun s => ?_⟩
    by_cases q : s = 0
    · rw [q, up_at]
    · rw [up_ne _ _ _ _ q, h3, if_neg q]

/-- Behind 'freed', the one that is left is held by its local handle. -/
theorem LayD.holdL {d : GD} {i rt : Nat} (l : LayD d 0 i) (hrt : rt < i) : Hold { d with lo := fun s => if s < d.n ∧ (s : Int) ≠ (rt : Int) then 0 else d.lo s } rt (hand 1 rt (lg rt)) := by
  have h1 := l.ge1 rt hrt
  rw [Nat.zero_add] at h1
  have h2 := lg_bd rt
  have hn := l.n
  left
  refine ⟨by show _ = hand 1 rt (d.ge rt); rw [h1], by show 1 ≤ d.ge rt; omega, by show d.ge rt ≤ 2; omega, fun s hs => ?_, l.gl⟩
  show (if s < d.n ∧ (s : Int) ≠ (rt : Int) then 0 else d.lo s) = _
  by_cases q : s = rt
  · subst q
    rw [if_neg (fun a => a.2 rfl), if_pos rfl]
    have := l.lo1 s hrt
    rw [Nat.zero_add] at this
    exact this
  · rw [if_neg q]
    by_cases q2 : s < d.n
    · rw [if_pos ⟨q2, by omega⟩]
    · rw [if_neg (fun a => q2 a.1)]
      exact l.lo2 s (by omega) hs
/-- .. by a global one. -/
theorem LayD.holdG {d : GD} {i rt : Nat} (l : LayD d 0 i) : Hold { d with gl := up d.gl 0 ((d.b + rt + 1 : Nat) : Int), gg := up d.gg 0 1, lo := fun s => if s < d.n ∧ (s : Int) ≠ -1 then 0 else d.lo s } rt (hand 2 0 1) := by
  have hn := l.n
  right
  refine ⟨rfl, by show up d.gg 0 1 0 = 1; exact up_at _ _ _, fun s hs => ?_, fun s => ?_⟩
  · show (if s < d.n ∧ (s : Int) ≠ -1 then 0 else d.lo s) = 0
    by_cases q2 : s < d.n
    · rw [if_pos ⟨q2, by omega⟩]
    · rw [if_neg (fun a => q2 a.1)]
      exact l.lo2 s (by omega) hs
  · show up d.gl 0 _ s = _
    by_cases q : s = 0
    · rw [q, up_at, if_pos rfl]
    · rw [up_ne _ _ _ _ q, if_neg q]; exact l.gl s

theorem LayD.ges {d : GD} {i : Nat} (l : LayD d 0 i) (s : Nat) (hs : s < 16) : 0 ≤ d.ge s ∧ d.ge s ≤ 2 := by
  have h2 := lg_bd s
  rcases Nat.lt_or_ge s i with q | q
  · have := l.ge1 s q
    rw [Nat.zero_add] at this
    omega
  · have := l.ge2 s (by omega) hs
    omega

/-- Closed under references. -/
theorem Cl.step {n : Nat} {rs : Nat → Nat → Int} {F : Nat → Prop} {j k : Nat} (c : Cl n rs F j) (hj : j < n) (hk : k < 2) (hr : 0 ≤ rs j k) : Cl n rs F (rs j k).toNat := fun P h1 h2 => h2 j k hj hk (c P h1 h2) hr
theorem Cl.none {n : Nat} {rs : Nat → Nat → Int} {F : Nat → Prop} (h : ∀ j, j < n → ¬ F j) (i : Nat) : ¬ Cl n rs F i := fun c => c (fun _ => False) (fun j hj q => h j hj q) (fun _ _ _ _ q _ => q)

/-- A collection of a heap whose b is 1: what is left is what one comes to. -/
theorem Gh.coll1 {h : H} {d : GD} (g : Gh h d) (hb : d.b = 1) {M : List Bool} (m : Marked h M) (fs : Nat → Bool) (hfs : ∀ i, i < d.n → (fs i = true ↔ Cl d.n d.rs d.F i)) (go : Nat → Bool) (hgo : ∀ i, i < d.n → go i = (d.go i || !fs i)) :
    Gh (h.collTo M h.l.length) { d with go := go } ∧ h.collNum M h.l.length = (cnt (fun i => !d.go i && !fs i) d.n : Int) := by
  obtain ⟨h1, h2⟩ := g.coll m (fun j h1 h2 => by omega) fs hfs
  exact ⟨h1.with_go go hgo, h2⟩
theorem Gh.taken {h : H} {d : GD} (g : Gh h d) (hl : ∀ s, s < 16 → d.lo s = 0) (hg : ∀ s, s < 4 → d.gl s = 0) : takenOf (h.t 1) = 0 ∧ takenOf (h.t 2) = 0 := by
  refine ⟨takenOf_zero _ (fun i hi => ?_), takenOf_zero _ (fun i hi => ?_)⟩
  · rw [g.t1] at hi
    have := g.loc i hi
    unfold H.sl at this
    rw [this]; exact hl i hi
  · rw [g.t2] at hi
    have := (g.glo i hi).1
    unfold H.sl at this
    rw [this]; exact hg i hi
end Tm
end Go.Proofs.YtcnmfljpmpgnjaaGreatDoor
