/- A line that is too long: both sides. -/
import Derived.Test.YtolmngfjdcoapaaDoorPev
namespace Go.Proofs.YtolmngfjdcoapaaDoor.rl
open Go.ChangeShapes Go.WideShapes Go.ChangeAt Go.RowKit
open Go.Proofs.YtolmngfjdcoapaaDoor.bytes Go.Proofs.YtolmngfjdcoapaaDoor.pile Go.Proofs.YtolmngfjdcoapaaDoor.jhelp Go.Proofs.YtolmngfjdcoapaaDoor.phr
set_option linter.unusedVariables false
set_option maxHeartbeats 800000 in
theorem long_impl (w : World) (s : ByteArray) (hl : 65536 < s.size) (hs : s.size < 4294967281) :
    Calls Tryd.prog 5 #[.string s] w fun e w' => e = .returned (.tuple #[.agg #[.int .i64 0, .int .i64 0, .slice none 0 0], .int .i64 2]) ∧ Below w.heap.size w w' := by
  obtain ⟨W0, hW0⟩ : ∃ W0, w.alloc (.cells #[.int .i64 0, .int .i64 0, .slice none 0 0] 24) = W0 := ⟨_, rfl⟩
  have b0 : Below w.heap.size w W0 := by rw [← hW0]; exact more (Below.refl _ _) _
  have x0 : W0.heap[w.heap.size]? = some (.cells #[.int .i64 0, .int .i64 0, .slice none 0 0] 24 (0, 0)) := by rw [← hW0]; exact heap_alloc_new w _
  obtain ⟨z1, z2⟩ := st3 x0 (.int .i64 0) (.int .i64 0) (.slice none 0 0)
  have HF : Hid (Below w.heap.size w (((W0.setCell ⟨w.heap.size, 0, none⟩ (.int .i64 0)).setCell ⟨w.heap.size, 1, none⟩ (.int .i64 0)).setCell ⟨w.heap.size, 2, none⟩ (.slice none 0 0))) := ⟨b0.os, b0.tape, b0.output, by simpa using b0.size, fun k hk => (z2 k (by omega)).trans (b0.block k hk)⟩
  have d0 : W0.cell? ⟨w.heap.size, 0, none⟩ = some (.int .i64 0) := cell_of x0 rfl
  have d1 : W0.cell? ⟨w.heap.size, 1, none⟩ = some (.int .i64 0) := cell_of x0 rfl
  have d2 : W0.cell? ⟨w.heap.size, 2, none⟩ = some (.slice none 0 0) := cell_of x0 rfl
  have f0 := frozen_of x0 0
  have f1 := frozen_of x0 1
  have f2 := frozen_of x0 2
  obtain ⟨WF, hWF⟩ : ∃ WF, ((W0.setCell ⟨w.heap.size, 0, none⟩ (.int .i64 0)).setCell ⟨w.heap.size, 1, none⟩ (.int .i64 0)).setCell ⟨w.heap.size, 2, none⟩ (.slice none 0 0) = WF := ⟨_, rfl⟩
  rw [hWF] at HF z1
  have HW : Hid (((W0.setCell ⟨w.heap.size, 0, none⟩ (.int .i64 0)).setCell ⟨w.heap.size, 1, none⟩ (.int .i64 0)).setCell ⟨w.heap.size, 2, none⟩ (.slice none 0 0) = WF) := hWF
  have k0 : WF.cell? ⟨w.heap.size, 0, none⟩ = some (.int .i64 0) := cell_of z1 rfl
  have k1 : WF.cell? ⟨w.heap.size, 1, none⟩ = some (.int .i64 0) := cell_of z1 rfl
  have k2 : WF.cell? ⟨w.heap.size, 2, none⟩ = some (.slice none 0 0) := cell_of z1 rfl
  clear b0 x0 z1 z2 hWF
  go_enter Tryd.func5, Tryd.ntmps5
  go_wp2
  (try rw [hW0])
  rw [HW.out]
  refine bodyPost_ret (v := .tuple #[.agg #[.int .i64 0, .int .i64 0, .slice none 0 0], .int .i64 2]) ?_ rfl ⟨rfl, HF.out⟩
  simp [results, Tryd.results5, go_sem, k0, k1, k2]
set_option maxHeartbeats 800000 in
theorem long_spec (w : World) (s : ByteArray) (hl : 65536 < s.size) (hs : s.size < 4294967281) :
    Calls Tryd.prog 4 #[.string s] w fun e w' => e = .returned (.tuple #[.agg #[.int .i64 0, .int .i64 0, .slice none 0 0], .int .i64 2]) ∧ Below w.heap.size w w' := by
  obtain ⟨W0, hW0⟩ : ∃ W0, w.alloc (.cells #[.int .i64 0, .int .i64 0, .slice none 0 0] 24) = W0 := ⟨_, rfl⟩
  have b0 : Below w.heap.size w W0 := by rw [← hW0]; exact more (Below.refl _ _) _
  have x0 : W0.heap[w.heap.size]? = some (.cells #[.int .i64 0, .int .i64 0, .slice none 0 0] 24 (0, 0)) := by rw [← hW0]; exact heap_alloc_new w _
  obtain ⟨z1, z2⟩ := st3 x0 (.int .i64 0) (.int .i64 0) (.slice none 0 0)
  have HF : Hid (Below w.heap.size w (((W0.setCell ⟨w.heap.size, 0, none⟩ (.int .i64 0)).setCell ⟨w.heap.size, 1, none⟩ (.int .i64 0)).setCell ⟨w.heap.size, 2, none⟩ (.slice none 0 0))) := ⟨b0.os, b0.tape, b0.output, by simpa using b0.size, fun k hk => (z2 k (by omega)).trans (b0.block k hk)⟩
  have d0 : W0.cell? ⟨w.heap.size, 0, none⟩ = some (.int .i64 0) := cell_of x0 rfl
  have d1 : W0.cell? ⟨w.heap.size, 1, none⟩ = some (.int .i64 0) := cell_of x0 rfl
  have d2 : W0.cell? ⟨w.heap.size, 2, none⟩ = some (.slice none 0 0) := cell_of x0 rfl
  have f0 := frozen_of x0 0
  have f1 := frozen_of x0 1
  have f2 := frozen_of x0 2
  obtain ⟨WF, hWF⟩ : ∃ WF, ((W0.setCell ⟨w.heap.size, 0, none⟩ (.int .i64 0)).setCell ⟨w.heap.size, 1, none⟩ (.int .i64 0)).setCell ⟨w.heap.size, 2, none⟩ (.slice none 0 0) = WF := ⟨_, rfl⟩
  rw [hWF] at HF z1
  have HW : Hid (((W0.setCell ⟨w.heap.size, 0, none⟩ (.int .i64 0)).setCell ⟨w.heap.size, 1, none⟩ (.int .i64 0)).setCell ⟨w.heap.size, 2, none⟩ (.slice none 0 0) = WF) := hWF
  have k0 : WF.cell? ⟨w.heap.size, 0, none⟩ = some (.int .i64 0) := cell_of z1 rfl
  have k1 : WF.cell? ⟨w.heap.size, 1, none⟩ = some (.int .i64 0) := cell_of z1 rfl
  have k2 : WF.cell? ⟨w.heap.size, 2, none⟩ = some (.slice none 0 0) := cell_of z1 rfl
  clear b0 x0 z1 z2 hWF
  go_enter Tryd.func4, Tryd.ntmps4
  go_wp2
  (try rw [hW0])
  rw [HW.out]
  refine bodyPost_ret (v := .tuple #[.agg #[.int .i64 0, .int .i64 0, .slice none 0 0], .int .i64 2]) ?_ rfl ⟨rfl, HF.out⟩
  simp [results, Tryd.results4, go_sem, k0, k1, k2]
end Go.Proofs.YtolmngfjdcoapaaDoor.rl
