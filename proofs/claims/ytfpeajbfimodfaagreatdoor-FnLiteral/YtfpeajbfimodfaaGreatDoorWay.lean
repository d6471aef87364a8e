/- The way of a tree of letters. -/
import Derived.Test.YtfpeajbfimodfaaGreatDoorCat
import Derived.Test.YtfpeajbfimodfaaGreatDoorPart
import Derived.Test.YtfpeajbfimodfaaGreatDoorCompile
import Derived.Deep.CutRange
namespace Go.Proofs.YtfpeajbfimodfaaGreatDoor.way
open Go.ChangeShapes Go.WideShapes Go.ChangeAt Go.RowKit
open Go.Proofs.YtfpeajbfimodfaaGreatDoor.bytes Go.Proofs.YtfpeajbfimodfaaGreatDoor.letters Go.Proofs.YtfpeajbfimodfaaGreatDoor.read Go.Proofs.YtfpeajbfimodfaaGreatDoor.pat Go.Proofs.YtfpeajbfimodfaaGreatDoor.weigh Go.Proofs.YtfpeajbfimodfaaGreatDoor.places Go.Proofs.YtfpeajbfimodfaaGreatDoor.sets Go.Proofs.YtfpeajbfimodfaaGreatDoor.leaf Go.Proofs.YtfpeajbfimodfaaGreatDoor.made Go.Proofs.YtfpeajbfimodfaaGreatDoor.tz Go.Proofs.YtfpeajbfimodfaaGreatDoor.net Go.Proofs.YtfpeajbfimodfaaGreatDoor.ci Go.Proofs.YtfpeajbfimodfaaGreatDoor.cat
set_option linter.unusedVariables false

theorem info52 : (Tryz.prog.info? 52).map (fun i => (i.zero, i.size, i.bytes)) = some (some (.agg #[.nilFunc, .nilFunc]), 2, 16) := by kernel_rfl
theorem make109 (M : Nat) (hM : M ≤ 1000) (W : World) : (Instr.makeSlice 109 (.int .i64 (M : Int)) (.int .i64 (M : Int))).run Tryz.prog W = .ok (.slice (some ⟨W.heap.size, 0, none⟩) M M) (W.alloc (.cells (madeCells #[.nilFunc, .nilFunc] (M * 2)) 52)) := by
  obtain ⟨i0, hi, hz0, hz1, hz2⟩ := info_parts info52
  have h := run_make (P := Tryz.prog) W 109 52 i0 _ Tryz.underlying109 hi hz0 .i64 .i64 M M (by omega) (Int.le_refl _) (by rw [hz2]; omega) (by omega)
  rw [hz1, Int.toNat_natCast] at h
  exact h
theorem way_end {W : World} {b : Nat} (h : W.heap[b]? = some (.cells #[.nilFunc, .nilFunc] 52 (0, 0))) (v0 v1 : Value) : ((W.setCell ⟨b, 0, none⟩ v0).setCell ⟨b, 1, none⟩ v1).heap[b]? = some (.cells #[v0, v1] 52 (0, 0)) := by
  have h0 := heap_setCell_same W b 0 _ 52 v0 h
  have h1 := heap_setCell_same _ b 1 _ 52 v1 h0
  simp at h1
  exact h1
theorem leaf_far {W : World} {b tb fb rb : Nat} {ts : List Int} {y : Int} (h : Leaf W tb fb rb ts y) (h1 : b ≠ tb) (h2 : b ≠ fb) (h3 : b ≠ rb) (i : Nat) (v : Value) : Leaf (W.setCell ⟨b, i, none⟩ v) tb fb rb ts y :=
  ⟨(World.cell?_of_block (Below.heap_setCell W _ _ tb (fun e => h1 e.symm))).trans h.text, (World.cell?_of_block (Below.heap_setCell W _ _ fb (fun e => h2 e.symm))).trans h.asks, (World.cell?_of_block (Below.heap_setCell W _ _ rb (fun e => h3 e.symm))).trans h.node⟩
set_option maxRecDepth 20000 in
set_option maxHeartbeats 4000000 in
theorem wayLeaf (w : World) (ts : List Int) (y : Int) :
    Calls Tryz.prog 27 #[.agg #[.int .i64 1, .int .i64 y, .int .i64 0, .string ⟨#[]⟩, .slice none 0 0], .string (strOfNums ts)] w fun e w' => ∃ tb fb rb, e = .returned (.agg #[.func (.func 83) #[] #[.pointer (some ⟨tb, 0, none⟩), .pointer (some ⟨fb, 0, none⟩)], .func (.func 44) #[] #[]]) ∧ Leaf w' tb fb rb ts y ∧ (w.heap.size + 2 ≤ tb ∧ w.heap.size + 2 ≤ fb ∧ w.heap.size + 2 ≤ rb) ∧ Below w.heap.size w w' := by
  have k109 : ∀ W : World, (Instr.makeSlice 109 (.int .i64 0) (.int .i64 0)).run Tryz.prog W = .ok (.slice (some ⟨W.heap.size, 0, none⟩) 0 0) (W.alloc (.cells (madeCells #[.nilFunc, .nilFunc] (0 * 2)) 52)) := fun W => make109 0 (by omega) W
  have HL := hide (fun W => leafReach_any W ts y)
  generalize madeCells #[.nilFunc, .nilFunc] (0 * 2) = A at k109
  generalize strOfNums ts = S at HL ⊢
  obtain ⟨W3, hW3⟩ : ∃ W3, W3 = ((w.alloc (.cells #[.int .i64 1, .int .i64 y, .int .i64 0, .string ⟨#[]⟩, .slice none 0 0] 26)).alloc (.cells #[.nilFunc, .nilFunc] 52)).alloc (.cells A 52) := ⟨_, rfl⟩
  have HB : Hid (Below w.heap.size w W3 ∧ W3.heap.size = w.heap.size + 3) := by
    rw [hW3]
    exact hide ⟨(((Below.refl w.heap.size w).alloc (Nat.le_refl _) _).alloc (by simp) _).alloc (by simp; omega) _, by simp⟩
  have x0 : W3.heap[w.heap.size]? = some (.cells #[.int .i64 1, .int .i64 y, .int .i64 0, .string ⟨#[]⟩, .slice none 0 0] 26 (0, 0)) := by
    rw [hW3, Below.heap_alloc _ _ _ (by simp; omega), Below.heap_alloc _ _ _ (by simp)]
    exact heap_alloc_new w _
  have x1 : W3.heap[w.heap.size + 1]? = some (.cells #[.nilFunc, .nilFunc] 52 (0, 0)) := by
    rw [hW3, Below.heap_alloc _ _ _ (by simp)]
    have h := heap_alloc_new (w.alloc (.cells #[.int .i64 1, .int .i64 y, .int .i64 0, .string ⟨#[]⟩, .slice none 0 0] 26)) (.cells #[.nilFunc, .nilFunc] 52)
    rw [show (w.alloc (.cells #[.int .i64 1, .int .i64 y, .int .i64 0, .string ⟨#[]⟩, .slice none 0 0] 26)).heap.size = w.heap.size + 1 by simp] at h
    exact h
  have b0 : W3.cell? ⟨w.heap.size, 0, none⟩ = some (.int .i64 1) := by rw [cell_one x0]; rfl
  have b1 : W3.cell? ⟨w.heap.size, 1, none⟩ = some (.int .i64 y) := by rw [cell_one x0]; rfl
  have b2 : W3.cell? ⟨w.heap.size, 2, none⟩ = some (.int .i64 0) := by rw [cell_one x0]; rfl
  have b3 : W3.cell? ⟨w.heap.size, 3, none⟩ = some (.string ⟨#[]⟩) := by rw [cell_one x0]; rfl
  have b4 : W3.cell? ⟨w.heap.size, 4, none⟩ = some (.slice none 0 0) := by rw [cell_one x0]; rfl
  have HX := hide x1
  clear x0 x1
  go_enter Tryz.func27, Tryz.ntmps27
  go_wp2
  rw [← hW3]
  clear hW3 k109
  go_loopw [6, 7, 15] (fun _ _ iv wr => iv = .int .i64 0 ∧ wr = W3) (fun _ _ _ _ => 0)
  case atStart => exact ⟨rfl, rfl⟩
  case round =>
    obtain ⟨rfl, rfl⟩ := hrel
    go_wp2_with (go_at_call 43; refine (HL.out _).mono ?_; rintro e w4 ⟨rfl, h4, hb4⟩; have y1 := (hb4.block (w.heap.size + 1) (by have := HB.out.2; omega)).trans HX.out; have r0 : w4.cell? ⟨w.heap.size + 1, 0, none⟩ = some .nilFunc := (by rw [cell_one y1]; rfl); have r1 : w4.cell? ⟨w.heap.size + 1, 1, none⟩ = some .nilFunc := (by rw [cell_one y1]; rfl); have r2 : w4.frozen? ⟨w.heap.size + 1, 0, none⟩ = false := (by simp only [World.frozen?, y1]; simp); have r3 : w4.frozen? ⟨w.heap.size + 1, 1, none⟩ = false := (by simp only [World.frozen?, y1]; simp); have H4 := hide (And.intro h4 hb4); have HY := hide y1; clear h4 hb4 y1)
    have hz := HB.out.2
    have z1 := way_end HY.out (.func (.func 83) #[] #[.pointer (some ⟨wr.heap.size + 1, 0, none⟩), .pointer (some ⟨wr.heap.size + 2, 0, none⟩)]) (.func (.func 44) #[] #[])
    have hF := leaf_far (leaf_far H4.out.1 (b := w.heap.size + 1) (by omega) (by omega) (by omega) 0 (.func (.func 83) #[] #[.pointer (some ⟨wr.heap.size + 1, 0, none⟩), .pointer (some ⟨wr.heap.size + 2, 0, none⟩)])) (b := w.heap.size + 1) (by omega) (by omega) (by omega) 1 (.func (.func 44) #[] #[])
    have hB5 := ((HB.out.1.trans (H4.out.2.mono HB.out.1.size)).setCell (p := ⟨w.heap.size + 1, 0, none⟩) (by simp) (.func (.func 83) #[] #[.pointer (some ⟨wr.heap.size + 1, 0, none⟩), .pointer (some ⟨wr.heap.size + 2, 0, none⟩)])).setCell (p := ⟨w.heap.size + 1, 1, none⟩) (by simp) (.func (.func 44) #[] #[])
    generalize (w4.setCell ⟨w.heap.size + 1, 0, none⟩ (.func (.func 83) #[] #[.pointer (some ⟨wr.heap.size + 1, 0, none⟩), .pointer (some ⟨wr.heap.size + 2, 0, none⟩)])).setCell ⟨w.heap.size + 1, 1, none⟩ (.func (.func 44) #[] #[]) = w5 at *
    have u0 : w5.cell? ⟨w.heap.size + 1, 0, none⟩ = some (.func (.func 83) #[] #[.pointer (some ⟨wr.heap.size + 1, 0, none⟩), .pointer (some ⟨wr.heap.size + 2, 0, none⟩)]) := by rw [cell_one z1]; rfl
    have u1 : w5.cell? ⟨w.heap.size + 1, 1, none⟩ = some (.func (.func 44) #[] #[]) := by rw [cell_one z1]; rfl
    exact bodyPost_ret (v := .agg #[.func (.func 83) #[] #[.pointer (some ⟨wr.heap.size + 1, 0, none⟩), .pointer (some ⟨wr.heap.size + 2, 0, none⟩)], .func (.func 44) #[] #[]]) (by simp [results, Tryz.results27, go_sem, u0, u1]) rfl ⟨_, _, _, rfl, hF, by omega, hB5⟩
end Go.Proofs.YtfpeajbfimodfaaGreatDoor.way
