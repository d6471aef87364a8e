/- The events that a line names: the program's side. -/
import Derived.Test.YtolmngfjdcoapaaDoorPhn
namespace Go.Proofs.YtolmngfjdcoapaaDoor.phr
open Go.ChangeShapes Go.WideShapes Go.ChangeAt Go.RowKit
open Go.Proofs.YtolmngfjdcoapaaDoor.bytes Go.Proofs.YtolmngfjdcoapaaDoor.pile Go.Proofs.YtolmngfjdcoapaaDoor.jhelp Go.Proofs.YtolmngfjdcoapaaDoor.num
set_option linter.unusedVariables false
/-- Three cells of a result are stored. -/
theorem st3 {w : World} {d t : Nat} {o0 o1 o2 : Value} (h : w.heap[d]? = some (.cells #[o0, o1, o2] t (0, 0))) (a0 a1 a2 : Value) : (((w.setCell ⟨d, 0, none⟩ a0).setCell ⟨d, 1, none⟩ a1).setCell ⟨d, 2, none⟩ a2).heap[d]? = some (.cells #[a0, a1, a2] t (0, 0)) ∧ (∀ k, k ≠ d → (((w.setCell ⟨d, 0, none⟩ a0).setCell ⟨d, 1, none⟩ a1).setCell ⟨d, 2, none⟩ a2).heap[k]? = w.heap[k]?) := by
  have e0 := heap_setCell_same w d 0 _ t a0 h
  have e1 := heap_setCell_same _ d 1 _ t a1 e0
  have e2 := heap_setCell_same _ d 2 _ t a2 e1
  refine ⟨by simpa using e2, fun k hk => ?_⟩
  rw [Below.heap_setCell _ _ _ _ hk, Below.heap_setCell _ _ _ _ hk, Below.heap_setCell _ _ _ _ hk]
theorem grown_alloc {w w' : World} {d : Nat} (h : w.grownBy w' (some d)) (o : Obj) : w.grownBy (w'.alloc o) (some d) := grown_tr h (grown_of ((Below.refl _ _).alloc (Nat.le_refl _) _))
/-- Behind an event that has a number alone. -/
def EvE (w : World) (b : Nat) (kind : Int) (s : ByteArray) (f : Bool) (e : Ending) (w' : World) : Prop :=
  ∃ (v : Int) (f' : Bool), e = .returned (.agg #[.int .i64 kind, .int .i64 v, .slice none 0 0]) ∧ Ph w' b (cutB s) f' ∧ w.grownBy w' (some b) ∧ ((numS (cutA s).data.toList = some v ∧ cutB s = emp ∧ f' = f) ∨ ((numS (cutA s).data.toList = none ∨ cutB s ≠ emp) ∧ f' = true))
set_option maxHeartbeats 2000000 in
theorem nevent_any (w : World) (b : Nat) (kind : Int) (s : ByteArray) (f : Bool) (h : Ph w b s f) (hs : s.size < 4294967281) (hv : Vr w) (hb4 : 4 ≤ b) :
    Calls Tryd.prog 20 #[.int .i64 kind, .pointer (some ⟨b, 0, none⟩)] w fun e w' => EvE w b kind s f e w' := by
  obtain ⟨W0, hW0⟩ : ∃ W0, w.alloc (.cells #[.int .i64 0, .int .i64 0, .slice none 0 0] 24) = W0 := ⟨_, rfl⟩
  have b0 : Below w.heap.size w W0 := by rw [← hW0]; exact more (Below.refl _ _) _
  have x0 : W0.heap[w.heap.size]? = some (.cells #[.int .i64 0, .int .i64 0, .slice none 0 0] 24 (0, 0)) := by rw [← hW0]; exact heap_alloc_new w _
  have hbl := h.lt
  have HN : Hid (Calls Tryd.prog 27 #[.pointer (some ⟨b, 0, none⟩)] W0 fun e w1 => ∃ v, e = .returned (.int .i64 v) ∧ ∃ W1, Hid (w1.alloc (.cells #[.int .i64 kind, .int .i64 v, .slice none 0 0] 24) = W1) ∧ Hid (Calls Tryd.prog 28 #[.pointer (some ⟨b, 0, none⟩)] W1 fun e w2 => e = .returned (.tuple #[]) ∧ (w2.cell? ⟨w1.heap.size, 0, none⟩ = some (.int .i64 kind) ∧ w2.cell? ⟨w1.heap.size, 1, none⟩ = some (.int .i64 v) ∧ w2.cell? ⟨w1.heap.size, 2, none⟩ = some (.slice none 0 0)) ∧ (w2.cell? ⟨w.heap.size, 0, none⟩ = some (.int .i64 0) ∧ w2.cell? ⟨w.heap.size, 1, none⟩ = some (.int .i64 0) ∧ w2.cell? ⟨w.heap.size, 2, none⟩ = some (.slice none 0 0)) ∧ (w2.frozen? ⟨w.heap.size, 0, none⟩ = false ∧ w2.frozen? ⟨w.heap.size, 1, none⟩ = false ∧ w2.frozen? ⟨w.heap.size, 2, none⟩ = false) ∧
      ∃ WF, Hid (((w2.setCell ⟨w.heap.size, 0, none⟩ (.int .i64 kind)).setCell ⟨w.heap.size, 1, none⟩ (.int .i64 v)).setCell ⟨w.heap.size, 2, none⟩ (.slice none 0 0) = WF) ∧ (WF.cell? ⟨w.heap.size, 0, none⟩ = some (.int .i64 kind) ∧ WF.cell? ⟨w.heap.size, 1, none⟩ = some (.int .i64 v) ∧ WF.cell? ⟨w.heap.size, 2, none⟩ = some (.slice none 0 0)) ∧ Hid (EvE w b kind s f (.returned (.agg #[.int .i64 kind, .int .i64 v, .slice none 0 0])) WF))) := by
    refine (number_any W0 b s f (h.below b0) hs (hv.below b0) hb4).mono ?_
    rintro e w1 ⟨v, f', rfl, p1, g1, hn⟩
    obtain ⟨W1, hW1⟩ : ∃ W1, w1.alloc (.cells #[.int .i64 kind, .int .i64 v, .slice none 0 0] 24) = W1 := ⟨_, rfl⟩
    have b1 : Below w1.heap.size w1 W1 := by rw [← hW1]; exact more (Below.refl _ _) _
    have x1 : W1.heap[w1.heap.size]? = some (.cells #[.int .i64 kind, .int .i64 v, .slice none 0 0] 24 (0, 0)) := by rw [← hW1]; exact heap_alloc_new w1 _
    have sz0 : W0.heap.size = w.heap.size + 1 := by rw [← hW0]; exact World.size_alloc ..
    have sz1 : W1.heap.size = w1.heap.size + 1 := by rw [← hW1]; exact World.size_alloc ..
    have gs := g1.size
    refine ⟨v, rfl, W1, hW1, ?_⟩
    refine (end_any W1 b (cutB s) f' (p1.below b1)).mono ?_
    rintro e w2 ⟨rfl, p2, g2⟩
    have y1 : w2.heap[w1.heap.size]? = some (.cells #[.int .i64 kind, .int .i64 v, .slice none 0 0] 24 (0, 0)) := (g2.block _ (by omega) (by simp; have := p1.lt; omega)).trans x1
    have y0 : w2.heap[w.heap.size]? = some (.cells #[.int .i64 0, .int .i64 0, .slice none 0 0] 24 (0, 0)) := (g2.block _ (by omega) (by simp; omega)).trans ((b1.block _ (by omega)).trans ((g1.block _ (by omega) (by simp; omega)).trans x0))
    obtain ⟨z1, z2⟩ := st3 y0 (.int .i64 kind) (.int .i64 v) (.slice none 0 0)
    refine ⟨rfl, ⟨cell_of y1 rfl, cell_of y1 rfl, cell_of y1 rfl⟩, ⟨cell_of y0 rfl, cell_of y0 rfl, cell_of y0 rfl⟩, ⟨frozen_of y0 0, frozen_of y0 1, frozen_of y0 2⟩, _, rfl, ⟨cell_of z1 rfl, cell_of z1 rfl, cell_of z1 rfl⟩, v, _, rfl, (z2 b (by omega)).trans p2, ?_, ?_⟩
    · have g : w.grownBy w2 (some b) := grown_tr (grown_tr (grown_tr (grown_of b0) g1) (grown_of b1)) g2
      exact ⟨g.os, g.tape, g.output, by simpa using g.size, fun k hk hn => (z2 k (by omega)).trans (g.block k hk hn)⟩
    · rcases hn with ⟨h1, rfl⟩ | ⟨h1, rfl⟩
      · by_cases he : cutB s = emp
        · exact .inl ⟨h1, he, by simp [he]⟩
        · exact .inr ⟨.inr he, by simp [he]⟩
      · exact .inr ⟨.inl h1, by simp⟩
  clear h hs hv hbl b0 x0
  go_enter Tryd.func20, Tryd.ntmps20
  go_wp2_with fail
  (try rw [hW0])
  refine HN.out.mono ?_
  rintro e w1 ⟨v, rfl, W1, hW1, HE⟩
  clear HN hW0
  go_wp2_with fail
  rw [hW1.out]
  refine HE.out.mono ?_
  rintro e w2 ⟨rfl, ⟨c0, c1, c2⟩, ⟨d0, d1, d2⟩, ⟨f0, f1, f2⟩, WF, hWF, ⟨k0, k1, k2⟩, HF⟩
  clear HE hW1
  go_wp2
  rw [hWF.out]
  refine bodyPost_ret (v := .agg #[.int .i64 kind, .int .i64 v, .slice none 0 0]) ?_ rfl HF.out
  simp [results, Tryd.results20, go_sem, k0, k1, k2]
end Go.Proofs.YtolmngfjdcoapaaDoor.phr
