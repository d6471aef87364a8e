/- Events: equal, marked, held: the law's own helpers. -/
import Derived.Test.YtolmngfjdcoapaaDoorPev
namespace Go.Proofs.YtolmngfjdcoapaaDoor.evh
open Go.ChangeShapes Go.WideShapes Go.ChangeAt Go.RowKit
open Go.Proofs.YtolmngfjdcoapaaDoor.bytes Go.Proofs.YtolmngfjdcoapaaDoor.pile Go.Proofs.YtolmngfjdcoapaaDoor.jhelp Go.Proofs.YtolmngfjdcoapaaDoor.phr
set_option linter.unusedVariables false
def ev (k n : Int) (a : Value) : Value := .agg #[.int .i64 k, .int .i64 n, a]
theorem nq (a : Int) : (a != a) = false := by simp
set_option maxHeartbeats 800000 in
theorem eq_any (w : World) (k n : Int) (ao bo : Option Addr) (m ca cb : Nat) (xs : List Int) (ha : Rd w (.slice ao m ca) xs) (hb : Rd w (.slice bo m cb) xs) :
    Calls Tryd.prog 6 #[ev k n (.slice ao m ca), ev k n (.slice bo m cb)] w fun e w' => e = .returned (.bool true) ∧ Below w.heap.size w w' := by
  obtain ⟨W0, hW0⟩ : ∃ W0, w.alloc (.cells #[.int .i64 k, .int .i64 n, .slice ao m ca] 24) = W0 := ⟨_, rfl⟩
  obtain ⟨W1, hW1⟩ : ∃ W1, W0.alloc (.cells #[.int .i64 k, .int .i64 n, .slice bo m cb] 24) = W1 := ⟨_, rfl⟩
  have b0 : Below w.heap.size w W0 := by rw [← hW0]; exact more (Below.refl _ _) _
  have b1 : Below W0.heap.size W0 W1 := by rw [← hW1]; exact more (Below.refl _ _) _
  have s0 : W0.heap.size = w.heap.size + 1 := by rw [← hW0]; exact World.size_alloc ..
  have bb : Below w.heap.size w W1 := b0.trans (b1.mono (by omega))
  have x0 : W0.heap[w.heap.size]? = some (.cells #[.int .i64 k, .int .i64 n, .slice ao m ca] 24 (0, 0)) := by rw [← hW0]; exact heap_alloc_new w _
  have x1 : W1.heap[w.heap.size + 1]? = some (.cells #[.int .i64 k, .int .i64 n, .slice bo m cb] 24 (0, 0)) := by rw [← hW1, ← s0]; exact heap_alloc_new W0 _
  have y0 : W1.heap[w.heap.size]? = some (.cells #[.int .i64 k, .int .i64 n, .slice ao m ca] 24 (0, 0)) := (b1.block _ (by omega)).trans x0
  have HE : Hid (Calls Tryd.prog 15 #[.slice ao m ca, .slice bo m cb] W1 fun e w' => e = .returned (.bool true) ∧ Hid (Below w.heap.size w w')) := by
    refine (eq_same W1 _ _ xs (ha.below bb (Nat.le_refl _)) (hb.below bb (Nat.le_refl _))).mono ?_
    rintro e w' ⟨rfl, q, rfl⟩
    exact ⟨rfl, below_drewN bb q⟩
  have c0 : W1.cell? ⟨w.heap.size, 0, none⟩ = some (.int .i64 k) := cell_of y0 rfl
  have c1 : W1.cell? ⟨w.heap.size, 1, none⟩ = some (.int .i64 n) := cell_of y0 rfl
  have c2 : W1.cell? ⟨w.heap.size, 2, none⟩ = some (.slice ao m ca) := cell_of y0 rfl
  have d0 : W1.cell? ⟨w.heap.size + 1, 0, none⟩ = some (.int .i64 k) := cell_of x1 rfl
  have d1 : W1.cell? ⟨w.heap.size + 1, 1, none⟩ = some (.int .i64 n) := cell_of x1 rfl
  have d2 : W1.cell? ⟨w.heap.size + 1, 2, none⟩ = some (.slice bo m cb) := cell_of x1 rfl
  have n1 := nq k
  have n2 := nq n
  clear b0 b1 bb x0 x1 y0 ha hb
  unfold ev
  go_enter Tryd.func6, Tryd.ntmps6
  go_wp2_with (go_at_call 15; refine HE.out.mono ?_; rintro e w' ⟨rfl, HB⟩)
  go_ret
  exact ⟨rfl, HB.out⟩
set_option maxHeartbeats 800000 in
theorem mark_any (w : World) (base : Nat) (k n : Int) (ao : Option Addr) (m ca : Nat) (xs : List Int) (q : Int) (h0 : 0 ≤ q) (hq : q + xs.length ≤ 4611686018427387904) (ha : Own w base (.slice ao m ca) xs) :
    Calls Tryd.prog 7 #[ev k n (.slice ao m ca), .int .i64 q] w fun e w' => e = .returned (.int .i64 (q + xs.length)) ∧ Own w' base (.slice ao m ca) (marks q xs.length) ∧ w.grownBy w' (Value.slice ao m ca).ownBlock := by
  obtain ⟨W0, hW0⟩ : ∃ W0, w.alloc (.cells #[.int .i64 k, .int .i64 n, .slice ao m ca] 24) = W0 := ⟨_, rfl⟩
  have b0 : Below w.heap.size w W0 := by rw [← hW0]; exact more (Below.refl _ _) _
  have x0 : W0.heap[w.heap.size]? = some (.cells #[.int .i64 k, .int .i64 n, .slice ao m ca] 24 (0, 0)) := by rw [← hW0]; exact heap_alloc_new w _
  have HE : Hid (Calls Tryd.prog 16 #[.slice ao m ca, .int .i64 q] W0 fun e w' => e = .returned (.int .i64 (q + xs.length)) ∧ Hid (Own w' base (.slice ao m ca) (marks q xs.length) ∧ w.grownBy w' (Value.slice ao m ca).ownBlock)) := by
    refine (mark_own W0 base _ q xs h0 hq (ha.below b0 (Nat.le_refl _))).mono ?_
    rintro e w' ⟨rfl, o, g⟩
    exact ⟨rfl, o, grown_trans ⟨b0.os, b0.tape, b0.output, b0.size, fun i hi _ => b0.block i hi⟩ g⟩
  have c2 : W0.cell? ⟨w.heap.size, 2, none⟩ = some (.slice ao m ca) := cell_of x0 rfl
  clear b0 x0 ha
  unfold ev
  go_enter Tryd.func7, Tryd.ntmps7
  go_wp2_with (go_at_call 16; refine HE.out.mono ?_; rintro e w' ⟨rfl, HB⟩)
  go_ret
  exact ⟨rfl, HB.out⟩
set_option maxHeartbeats 800000 in
theorem held_any (w : World) (k n : Int) (ao : Option Addr) (m ca : Nat) (q : Int) (h0 : 0 ≤ q) (hq : q + m ≤ 4611686018427387904) (ha : Rd w (.slice ao m ca) (marks q m)) :
    Calls Tryd.prog 8 #[ev k n (.slice ao m ca), .int .i64 q] w fun e w' => e = .returned (.int .i64 (q + m)) ∧ Below w.heap.size w w' := by
  obtain ⟨W0, hW0⟩ : ∃ W0, w.alloc (.cells #[.int .i64 k, .int .i64 n, .slice ao m ca] 24) = W0 := ⟨_, rfl⟩
  have b0 : Below w.heap.size w W0 := by rw [← hW0]; exact more (Below.refl _ _) _
  have x0 : W0.heap[w.heap.size]? = some (.cells #[.int .i64 k, .int .i64 n, .slice ao m ca] 24 (0, 0)) := by rw [← hW0]; exact heap_alloc_new w _
  have HE : Hid (Calls Tryd.prog 17 #[.slice ao m ca, .int .i64 q] W0 fun e w' => e = .returned (.int .i64 (q + m)) ∧ w' = W0) := held_same W0 _ q m h0 hq (ha.below b0 (Nat.le_refl _))
  have HB : Hid (Below w.heap.size w W0) := b0
  have c2 : W0.cell? ⟨w.heap.size, 2, none⟩ = some (.slice ao m ca) := cell_of x0 rfl
  have hlt : ¬ (q + (m : Int) < 0) := by omega
  clear b0 x0 ha
  unfold ev
  go_enter Tryd.func8, Tryd.ntmps8
  go_wp2_with (go_at_call 17; refine HE.out.mono ?_; rintro e w' ⟨rfl, rfl⟩)
  go_ret
  exact ⟨rfl, HB.out⟩
end Go.Proofs.YtolmngfjdcoapaaDoor.evh
