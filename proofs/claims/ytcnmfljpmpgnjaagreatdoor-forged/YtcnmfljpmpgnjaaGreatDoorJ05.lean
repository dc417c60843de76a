import Derived.Test.YtcnmfljpmpgnjaaGreatDoorJ04
import Derived.RegionTactic
import Derived.Stop.IfaceNil
namespace Go.Proofs.YtcnmfljpmpgnjaaGreatDoor
open Go.RowKit Go.Maps
open Tm (H Ob Sl Why)

theorem ifaceE : Tryz.prog.isIface 37 = true := by kernel_rfl

def hasF (o : Ob) (i kind : Int) : Bool := decide (0 ≤ i ∧ i < (o.kinds.length : Int) ∧ o.kinds.getD i.toNat 0 = kind)

theorem oroom_any {S : Nat → Prop} {tag : Nat → Nat × Nat} {w : World} {b j fb : Nat} {o : Ob} (h : OAt S tag w b j fb o) (hl : o.kinds.length ≤ 32) :
    Calls Tryz.prog 93 #[.pointer (some ⟨b, 0, none⟩)] w fun e w' => e = .returned (.int .i64 ((o.kinds.length : Int) + 1)) ∧ w' = w := by
  obtain ⟨p, c, h1, h2⟩ := h.head
  clear h2
  go_enter Tryz.func93, Tryz.ntmps93
  go_wp2_with fail
  go_ret
  exact ⟨rfl, rfl⟩

set_option maxRecDepth 100000 in
set_option maxHeartbeats 1000000 in
theorem pfield_any {S : Nat → Prop} {tag : Nat → Nat × Nat} {w : World} {b j fb N : Nat} {A : Nat → Addr} {o : Ob} (hE : Errs N A w) (h : OAt S tag w b j fb o) (hl : o.kinds.length ≤ 32) (i kind : Int) :
    Calls Tryz.prog 101 #[.pointer (some ⟨b, 0, none⟩), .int .i64 i, .int .i64 kind] w fun e w' => e = .returned (if hasF o i kind then .tuple #[.pointer (some ⟨fb, i.toNat * 2, none⟩), .nilIface] else .tuple #[.pointer none, errV A 6]) ∧ ∃ n, w' = w.drewN n := by
  obtain ⟨p, c, h1, h2⟩ := h.head
  have g5 := hE.g5
  have HK := hide h.kind
  have H2 := hide h2
  clear h2
  by_cases c1 : i < 0
  · have e : hasF o i kind = false := by simp [hasF]; omega
    rw [e]
    go_enter Tryz.func101, Tryz.ntmps101
    go_wp2_with fail
    go_quiet (fail)
    go_wp2_with fail
    go_ret2
    exact ⟨rfl, _, rfl⟩
  · by_cases c2 : i < (o.kinds.length : Int)
    · obtain ⟨q, rfl⟩ : ∃ q : Nat, i = (q : Int) := ⟨i.toNat, by omega⟩
      have hq : q < o.kinds.length := by omega
      have ck := HK.out q hq
      obtain ⟨rfl, _, _⟩ := H2.out (by omega)
      have hx : hasF o (q : Int) kind = (o.kinds.getD q 0 == kind) := by
        simp only [hasF, Int.toNat_natCast]
        by_cases e : o.kinds.getD q 0 = kind
        · rw [decide_eq_true ⟨by omega, by omega, e⟩, e]; simp
        · rw [decide_eq_false (fun h => e h.2.2)]; exact (beq_eq_false_iff_ne.2 e).symm
      rw [hx]
      generalize o.kinds.getD q 0 = kd at *
      have b2 : ¬ ((q : Int) < 0) := by omega
      have b3 : decide ((q : Int) ≥ (o.kinds.length : Int)) = false := by simp; omega
      cases e : (kd == kind)
      · have e' : (kd != kind) = true := by simp [bne, e]
        go_enter Tryz.func101, Tryz.ntmps101
        go_wp2_with fail
        go_quiet (fail)
        go_wp2_with fail
        go_ret2
        exact ⟨rfl, _, rfl⟩
      · have e' : (kd != kind) = false := by simp [bne, e]
        go_enter Tryz.func101, Tryz.ntmps101
        go_wp2_with fail
        go_ret2
        exact ⟨rfl, 0, rfl⟩
    · have e : hasF o i kind = false := by simp [hasF]; omega
      have b3 : decide (i ≥ (o.kinds.length : Int)) = true := by simp; omega
      rw [e]
      go_enter Tryz.func101, Tryz.ntmps101
      go_wp2_with fail
      go_quiet (fail)
      go_wp2_with fail
      go_ret2
      exact ⟨rfl, _, rfl⟩

set_option maxRecDepth 100000 in
set_option maxHeartbeats 1000000 in
theorem number_any {S : Nat → Prop} {tag : Nat → Nat × Nat} {w : World} {b j fb N : Nat} {A : Nat → Addr} {o : Ob} (hE : Errs N A w) (h : OAt S tag w b j fb o) (hl : o.kinds.length ≤ 32) (i : Int) :
    Calls Tryz.prog 76 #[.pointer (some ⟨b, 0, none⟩), .int .i64 i] w fun e w' => e = .returned (if hasF o i 1 then .tuple #[.int .i64 (o.vals.getD i.toNat 0), .nilIface] else .tuple #[.int .i64 0, errV A 6]) ∧ ∃ n, w' = w.drewN n := by
  have HF := pfield_any hE h hl i 1
  have hi := ifaceE
  cases hf : hasF o i 1
  · rw [hf] at HF
    simp only [errV] at HF
    have HF := hide HF
    go_enter Tryz.func76, Tryz.ntmps76
    go_wp2_with fail
    refine HF.out.mono ?_
    rintro e w' ⟨rfl, nd, rfl⟩
    go_wp2_with fail
    go_ret2
    exact ⟨rfl, _, rfl⟩
  · rw [hf] at HF
    simp only [if_true] at HF
    have HF := hide HF
    have hq : i.toNat < o.kinds.length := by simp [hasF] at hf; omega
    have cv := h.val i.toNat hq
    generalize o.vals.getD i.toNat 0 = v at *
    go_enter Tryz.func76, Tryz.ntmps76
    go_wp2_with fail
    refine HF.out.mono ?_
    rintro e w' ⟨rfl, nd, rfl⟩
    go_wp2_with fail
    go_ret2
    exact ⟨rfl, _, rfl⟩

set_option maxRecDepth 100000 in
set_option maxHeartbeats 1000000 in
theorem reference_any {S : Nat → Prop} {tag : Nat → Nat × Nat} {w : World} {b j fb N : Nat} {A : Nat → Addr} {o : Ob} (hE : Errs N A w) (h : OAt S tag w b j fb o) (hl : o.kinds.length ≤ 32) (i : Int) :
    Calls Tryz.prog 77 #[.pointer (some ⟨b, 0, none⟩), .int .i64 i] w fun e w' => e = .returned (if hasF o i 2 then .tuple #[.int .i64 (o.vals.getD i.toNat 0), .nilIface] else .tuple #[.int .i64 0, errV A 6]) ∧ ∃ n, w' = w.drewN n := by
  have HF := pfield_any hE h hl i 2
  have hi := ifaceE
  cases hf : hasF o i 2
  · rw [hf] at HF
    simp only [errV] at HF
    have HF := hide HF
    go_enter Tryz.func77, Tryz.ntmps77
    go_wp2_with fail
    refine HF.out.mono ?_
    rintro e w' ⟨rfl, nd, rfl⟩
    go_wp2_with fail
    go_ret2
    exact ⟨rfl, _, rfl⟩
  · rw [hf] at HF
    simp only [if_true] at HF
    have HF := hide HF
    have hq : i.toNat < o.kinds.length := by simp [hasF] at hf; omega
    have cv := h.val i.toNat hq
    generalize o.vals.getD i.toNat 0 = v at *
    go_enter Tryz.func77, Tryz.ntmps77
    go_wp2_with fail
    refine HF.out.mono ?_
    rintro e w' ⟨rfl, nd, rfl⟩
    go_wp2_with fail
    go_ret2
    exact ⟨rfl, _, rfl⟩

set_option maxRecDepth 100000 in
set_option maxHeartbeats 1000000 in
theorem setNumber_any {S : Nat → Prop} {tag : Nat → Nat × Nat} {w : World} {b j fb N : Nat} {A : Nat → Addr} {o : Ob} (hE : Errs N A w) (h : OAt S tag w b j fb o) (hl : o.kinds.length ≤ 32) (hfz : ∀ i, w.frozen? ⟨fb, i, none⟩ = false) (i v : Int) :
    Calls Tryz.prog 72 #[.pointer (some ⟨b, 0, none⟩), .int .i64 i, .int .i64 v] w fun e w' => if hasF o i 1 then e = .returned .nilIface ∧ ∃ n, w' = (w.drewN n).setCell ⟨fb, i.toNat * 2 + 1, none⟩ (.int .i64 v) else e = .returned (errV A 6) ∧ ∃ n, w' = w.drewN n := by
  have HF := pfield_any hE h hl i 1
  have hi := ifaceE
  cases hf : hasF o i 1
  · rw [hf] at HF
    simp only [errV] at HF
    have HF := hide HF
    go_enter Tryz.func72, Tryz.ntmps72
    go_wp2_with fail
    refine HF.out.mono ?_
    rintro e w' ⟨rfl, nd, rfl⟩
    go_wp2_with fail
    go_ret
    exact ⟨rfl, _, rfl⟩
  · rw [hf] at HF
    simp only [if_true] at HF
    have HF := hide HF
    have hq : i.toNat < o.kinds.length := by simp [hasF] at hf; omega
    have cv := h.val i.toNat hq
    have cf := hfz (i.toNat * 2 + 1)
    generalize o.vals.getD i.toNat 0 = u at *
    go_enter Tryz.func72, Tryz.ntmps72
    go_wp2_with fail
    refine HF.out.mono ?_
    rintro e w' ⟨rfl, nd, rfl⟩
    go_wp2_with fail
    go_ret
    exact ⟨rfl, _, rfl⟩

set_option maxRecDepth 100000 in
set_option maxHeartbeats 1000000 in
theorem setReference_any {S : Nat → Prop} {tag : Nat → Nat × Nat} {w : World} {b j fb N : Nat} {A : Nat → Addr} {o : Ob} (hE : Errs N A w) (h : OAt S tag w b j fb o) (hl : o.kinds.length ≤ 32) (hfz : ∀ i, w.frozen? ⟨fb, i, none⟩ = false) (i v : Int) :
    Calls Tryz.prog 78 #[.pointer (some ⟨b, 0, none⟩), .int .i64 i, .int .i64 v] w fun e w' => if hasF o i 2 then e = .returned .nilIface ∧ ∃ n, w' = (w.drewN n).setCell ⟨fb, i.toNat * 2 + 1, none⟩ (.int .i64 v) else e = .returned (errV A 6) ∧ ∃ n, w' = w.drewN n := by
  have HF := pfield_any hE h hl i 2
  have hi := ifaceE
  cases hf : hasF o i 2
  · rw [hf] at HF
    simp only [errV] at HF
    have HF := hide HF
    go_enter Tryz.func78, Tryz.ntmps78
    go_wp2_with fail
    refine HF.out.mono ?_
    rintro e w' ⟨rfl, nd, rfl⟩
    go_wp2_with fail
    go_ret
    exact ⟨rfl, _, rfl⟩
  · rw [hf] at HF
    simp only [if_true] at HF
    have HF := hide HF
    have hq : i.toNat < o.kinds.length := by simp [hasF] at hf; omega
    have cv := h.val i.toNat hq
    have cf := hfz (i.toNat * 2 + 1)
    generalize o.vals.getD i.toNat 0 = u at *
    go_enter Tryz.func78, Tryz.ntmps78
    go_wp2_with fail
    refine HF.out.mono ?_
    rintro e w' ⟨rfl, nd, rfl⟩
    go_wp2_with fail
    go_ret
    exact ⟨rfl, _, rfl⟩
end Go.Proofs.YtcnmfljpmpgnjaaGreatDoor

namespace Go.Proofs.YtcnmfljpmpgnjaaGreatDoor
open Go.RowKit Go.Maps
open Tm (H Ob Sl Why)

theorem below_drewN' (w : World) (n : Nat) : Below w.heap.size w (w.drewN n) := ⟨rfl, rfl, rfl, Nat.le_refl _, fun _ _ => rfl⟩

theorem parts_any (x : Int) (w : World) (h0 : 0 ≤ x) (hx : x < 9223372036854775808) :
    Calls Tryz.prog 94 #[.int .i64 x] w fun e w' => e = .returned (.tuple #[.int .i64 (x % 4), .int .i64 (x / 4 % 64), .int .i64 (x / 256)]) ∧ w' = w := by
  go_enter Tryz.func94, Tryz.ntmps94
  go_wp2_with fail
  go_ret3
  exact ⟨rfl, rfl⟩

theorem slot_forged (h : H) (x : Int) (h0 : 0 < x) : decide (h.slot x < 0) = (decide (x % 4 = 0) || decide (((h.t (x % 4).toNat).length : Int) ≤ x / 4 % 64) || decide (x / 256 < 1) || decide (50 < x / 256)) := by
  unfold H.slot
  by_cases c1 : x % 4 = 0
  · rw [if_pos (Or.inr (Or.inl c1))]; simp [c1]
  · by_cases c2 : ((h.t (x % 4).toNat).length : Int) ≤ x / 4 % 64
    · rw [if_pos (Or.inr (Or.inr c2))]; simp [c2]
    · rw [if_neg (by rintro (h | h | h); exact absurd h (by omega); exact c1 h; exact c2 h)]
      by_cases c3 : 1 ≤ x / 256 ∧ x / 256 ≤ 50
      · rw [if_pos c3, decide_eq_false (by omega), decide_eq_false c1, decide_eq_false c2, decide_eq_false (by omega), decide_eq_false (by omega)]; rfl
      · rw [if_neg c3]
        by_cases c4 : x / 256 < 1
        · simp [c4]
        · have c5 : 50 < x / 256 := by omega
          simp [c5]

set_option maxRecDepth 100000 in
set_option maxHeartbeats 2000000 in
theorem forged_any {S : Nat → Prop} {tag : Nat → Nat × Nat} {w : World} {a : Nat} {Y : PLay} {h : H} (r : PRep S tag w a Y h) (x : Int) (h0 : x ≠ 0) (hx : x < 9223372036854775808) :
    Calls Tryz.prog 117 #[.pointer (some ⟨Y.bt, 0, none⟩), .int .i64 x] w fun e w' => e = .returned (.bool (decide (h.slot x < 0))) ∧ w' = w := by
  by_cases hn : x < 0
  · have e : decide (h.slot x < 0) = true := by
      unfold H.slot; rw [if_pos (Or.inl (by omega))]; rfl
    rw [e]
    go_enter Tryz.func117, Tryz.ntmps117
    go_wp2_with fail
    go_ret
    exact ⟨rfl, rfl⟩
  · have hp : 0 < x := by omega
    rw [slot_forged h x hp]
    have HP := hide (parts_any x w (by omega) hx)
    by_cases c1 : x % 4 = 0
    · have c1' : (x % 4 == 0) = true := by simpa using c1
      rw [decide_eq_true c1]
      have HC := hide c1
      clear c1
      go_enter Tryz.func117, Tryz.ntmps117
      go_wp2_with fail
      refine HP.out.mono ?_
      rintro e w' ⟨rfl, rfl⟩
      go_wp2_with fail
      go_ret
      exact ⟨rfl, rfl⟩
    · have c1' : (x % 4 == 0) = false := by simpa using c1
      have hk0 : 0 < (x % 4).toNat := by omega
      have hk4 : (x % 4).toNat < 4 := by omega
      obtain ⟨cc, ho, hcc⟩ := (r.tab (x % 4).toNat hk0 hk4).ho
      have hl16 := r.good.tabs (x % 4).toNat
      have b4 : x % 4 < 4 := by omega
      have b0 : 0 ≤ x % 4 := by omega
      rw [decide_eq_false c1]
      have ek : ((x % 4).toNat : Int) = x % 4 := by omega
      clear r
      generalize (h.t (x % 4).toNat).length = L at *
      by_cases c2 : (L : Int) ≤ x / 4 % 64
      · have c2' : decide (x / 4 % 64 ≥ (L : Int)) = true := by simpa using c2
        rw [decide_eq_true c2]
        go_enter Tryz.func117, Tryz.ntmps117
        go_wp2_with fail
        refine HP.out.mono ?_
        rintro e w' ⟨rfl, rfl⟩
        go_wp2_with fail
        go_ret
        exact ⟨rfl, rfl⟩
      · have c2' : decide (x / 4 % 64 ≥ (L : Int)) = false := by simpa using c2
        rw [decide_eq_false c2]
        by_cases c3 : x / 256 < 1
        · rw [decide_eq_true c3]
          go_enter Tryz.func117, Tryz.ntmps117
          go_wp2_with fail
          refine HP.out.mono ?_
          rintro e w' ⟨rfl, rfl⟩
          go_wp2_with fail
          go_ret
          exact ⟨rfl, rfl⟩
        · rw [decide_eq_false c3]
          by_cases c4 : 50 < x / 256
          · have c4' : decide (x / 256 > 50) = true := by simpa using c4
            rw [decide_eq_true c4]
            go_enter Tryz.func117, Tryz.ntmps117
            go_wp2_with fail
            refine HP.out.mono ?_
            rintro e w' ⟨rfl, rfl⟩
            go_wp2_with fail
            go_ret
            exact ⟨rfl, rfl⟩
          · have c4' : decide (x / 256 > 50) = false := by simpa using c4
            rw [decide_eq_false c4]
            go_enter Tryz.func117, Tryz.ntmps117
            go_wp2_with fail
            refine HP.out.mono ?_
            rintro e w' ⟨rfl, rfl⟩
            go_wp2_with fail
            go_ret
            exact ⟨ret_bool (by simp; omega), rfl⟩

/-- An error of the inner packages, for a reason. -/
def InErr (A : Nat → Addr) (w : World) (ev : Value) (y : Why) : Prop :=
  (ev = .nilIface ∧ y.reason = 0) ∨ (∃ n : Nat, 1 ≤ n ∧ n ≤ 10 ∧ y.reason = (n : Int) ∧ y.handle = 0 ∧ ev = .iface 261 (.pointer (some (A (n - 1))))) ∨
  ∃ b n : Nat, 1 ≤ n ∧ n ≤ 10 ∧ y.reason = (n : Int) ∧ ev = .iface 118 (.pointer (some ⟨b, 0, none⟩)) ∧ b < w.heap.size ∧ w.cell? ⟨b, 0, none⟩ = some (.int .i64 y.handle) ∧ w.cell? ⟨b, 1, none⟩ = some (.iface 261 (.pointer (some (A (n - 1)))))

theorem InErr.below {A : Nat → Addr} {w w' : World} {ev : Value} {y : Why} (h : InErr A w ev y) (hb : Below w.heap.size w w') : InErr A w' ev y := by
  rcases h with h | h | ⟨b, n, h1, h2, h3, h4, h5, h6, h7⟩
  · exact Or.inl h
  · exact Or.inr (Or.inl h)
  · exact Or.inr (Or.inr ⟨b, n, h1, h2, h3, h4, Nat.lt_of_lt_of_le h5 hb.size, by rw [hb.cell h5]; exact h6, by rw [hb.cell h5]; exact h7⟩)

/-- What 'Object' of the tables gives: the number, or a bad handle. -/
def ObjPost (A : Nat → Addr) (w : World) (n : Int) (y : Why) (e : Ending) (w' : World) : Prop :=
  ∃ ev, e = .returned (.tuple #[.int .i64 n, ev]) ∧ InErr A w' ev y ∧ Below w.heap.size w w' ∧ (y.reason = 0 → ev = .nilIface ∧ w' = w) ∧ (y.reason ≠ 0 → ∃ b, ev = .iface 118 (.pointer (some ⟨b, 0, none⟩)))

theorem bad_new {A : Nat → Addr} (w : World) (n : Nat) (x : Int) (h1 : 1 ≤ n) (h2 : n ≤ 10) : InErr A (w.alloc (.cells #[.int .i64 x, .iface 261 (.pointer (some (A (n - 1))))] 121)).drew (.iface 118 (.pointer (some ⟨w.heap.size, 0, none⟩))) ⟨(n : Int), x⟩ :=
  Or.inr (Or.inr ⟨w.heap.size, n, h1, h2, rfl, rfl, by simp, by show (w.alloc _).cell? _ = _; rw [World.cell?_alloc_at _ _ _ _ rfl]; rfl, by show (w.alloc _).cell? _ = _; rw [World.cell?_alloc_at _ _ _ _ rfl]; rfl⟩)

theorem below_box (w : World) (o : Obj) : Below w.heap.size w (w.alloc o).drew := ⟨rfl, rfl, rfl, by simp, fun k hk => (Below.alloc0 w o).block k hk⟩

set_option maxRecDepth 100000 in
set_option maxHeartbeats 2000000 in
theorem objectT_any {S : Nat → Prop} {tag : Nat → Nat × Nat} {w : World} {a : Nat} {Y : PLay} {h : H} {N : Nat} {A : Nat → Addr} (hE : Errs N A w) (r : PRep S tag w a Y h) (x : Int) (hx : x < 9223372036854775808) :
    Calls Tryz.prog 85 #[.pointer (some ⟨Y.bt, 0, none⟩), .int .i64 x] w (ObjPost A w (h.of x).1 (h.of x).2) := by
  have g1 := hE.g1
  have g2 := hE.g2
  have g3 := hE.g3
  by_cases h0 : x = 0
  · subst h0
    have HO : Hid (h.of 0 = (0, ⟨2, 0⟩)) := by show _ = _; unfold H.of; rw [if_pos rfl]
    go_enter Tryz.func85, Tryz.ntmps85
    go_wp2_with fail
    go_region
    all_goals go_wp2_with fail
    all_goals go_ret2
    all_goals
      rw [HO.out]
      exact ⟨_, rfl, bad_new w 2 0 (by omega) (by omega), below_box w _, fun h => by simp at h, fun _ => ⟨_, rfl⟩⟩
  · have h0' : (x == 0) = false := by simpa using h0
    have HF := forged_any r x h0 hx
    by_cases hs : h.slot x < 0
    · have HO : Hid (h.of x = (0, ⟨3, x⟩)) := by show _ = _; unfold H.of; rw [if_neg h0, if_pos hs]
      rw [decide_eq_true hs] at HF
      have HF := hide HF
      go_enter Tryz.func85, Tryz.ntmps85
      go_wp2_with fail
      refine HF.out.mono ?_
      rintro e w' ⟨rfl, rfl⟩
      go_wp2_with fail
      go_region
      all_goals go_wp2_with fail
      all_goals go_ret2
      all_goals
        rw [HO.out]
        exact ⟨_, rfl, bad_new w' 3 x (by omega) (by omega), below_box w' _, fun h => by simp at h, fun _ => ⟨_, rfl⟩⟩
    · obtain ⟨hp, h4, e1, hlt, hg1, hg2⟩ := slot_bd h x hs
      rw [decide_eq_false hs] at HF
      have HF := hide HF
      have HP := fun w' => hide (parts_any x w' (by omega) hx)
      have hk0 : 0 < (x % 4).toNat := by omega
      have hk4 : (x % 4).toNat < 4 := by omega
      have tk := r.tab (x % 4).toNat hk0 hk4
      obtain ⟨cc, ho, hcc⟩ := tk.ho
      have hgn := tk.hg
      have c1 := tk.ob (x / 4 % 64).toNat (by omega)
      have c2 := tk.gen (x / 4 % 64).toNat (by omega)
      have hl16 := r.good.tabs (x % 4).toNat
      have hlt2 : x / 4 % 64 < ((h.t (x % 4).toNat).length : Int) := by omega
      have b4 : x % 4 < 4 := by omega
      have b0 : 0 ≤ x % 4 := by omega
      have b5 : 0 ≤ x / 4 % 64 := by omega
      obtain ⟨s, hsd⟩ : ∃ s, (h.t (x % 4).toNat).getD (x / 4 % 64).toNat Tm.sl0 = s := ⟨_, rfl⟩
      have hof1 : (s.ob = 0 ∨ s.gen ≠ x / 256) → h.of x = (0, ⟨4, x⟩) := fun hc => by
        unfold H.of; rw [if_neg h0, if_neg hs, if_pos (by unfold H.sl; rw [e1, hsd]; exact hc)]
      have hof2 : ¬ (s.ob = 0 ∨ s.gen ≠ x / 256) → h.of x = (s.ob, Tm.fine) := fun hc => by
        unfold H.of; rw [if_neg h0, if_neg hs, if_neg (by unfold H.sl; rw [e1, hsd]; exact hc)]; unfold H.sl; rw [e1, hsd]
      rw [hsd] at c1 c2
      have HO1 := hide hof1
      have HO2 := hide hof2
      have hlE := hE.lt
      clear hof1 hof2 hsd e1 tk r hE hs
      generalize (h.t (x % 4).toNat).length = L at *
      by_cases ho : s.ob = 0
      · have ho' : (s.ob == 0) = true := by simpa using ho
        have HOb := hide ho
        clear ho
        go_enter Tryz.func85, Tryz.ntmps85
        go_wp2_with (first | (go_at_call 117; refine HF.out.mono ?_; rintro e w' ⟨rfl, rfl⟩) | (go_at_call 94; refine ((HP _).out).mono ?_; rintro e w'' ⟨rfl, rfl⟩) | fail)
        go_region
        all_goals go_wp2_with fail
        all_goals go_ret2
        all_goals
          rw [HO1.out (Or.inl HOb.out)]
          exact ⟨_, rfl, bad_new _ 4 x (by omega) (by omega), below_box _ _, fun h => by simp at h, fun _ => ⟨_, rfl⟩⟩
      · have ho' : (s.ob == 0) = false := by simpa using ho
        by_cases hg : s.gen = x / 256
        · have hg' : (s.gen != x / 256) = false := by simpa using hg
          have HG := hide hg
          have HOb := hide ho
          clear hg ho
          go_enter Tryz.func85, Tryz.ntmps85
          go_wp2_with (first | (go_at_call 117; refine HF.out.mono ?_; rintro e w' ⟨rfl, rfl⟩) | (go_at_call 94; refine ((HP _).out).mono ?_; rintro e w'' ⟨rfl, rfl⟩) | fail)
          go_ret2
          rw [HO2.out (by rintro (h | h); exact HOb.out h; exact h HG.out)]
          exact ⟨_, rfl, Or.inl ⟨rfl, rfl⟩, Below.refl _ _, fun _ => ⟨rfl, rfl⟩, fun h => absurd rfl h⟩
        · have hg' : (s.gen != x / 256) = true := by simpa using hg
          have HG := hide hg
          clear hg
          go_enter Tryz.func85, Tryz.ntmps85
          go_wp2_with (first | (go_at_call 117; refine HF.out.mono ?_; rintro e w' ⟨rfl, rfl⟩) | (go_at_call 94; refine ((HP _).out).mono ?_; rintro e w'' ⟨rfl, rfl⟩) | fail)
          go_region
          all_goals go_wp2_with fail
          all_goals go_ret2
          all_goals
            rw [HO1.out (Or.inr HG.out)]
            exact ⟨_, rfl, bad_new _ 4 x (by omega) (by omega), below_box _ _, fun h => by simp at h, fun _ => ⟨_, rfl⟩⟩
end Go.Proofs.YtcnmfljpmpgnjaaGreatDoor
