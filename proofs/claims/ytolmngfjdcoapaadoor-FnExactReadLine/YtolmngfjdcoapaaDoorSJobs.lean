/- Contracts: spec's JobBytes; the law's own helpers on jobs. -/
import Derived.Test.YtolmngfjdcoapaaDoorSJob
import Derived.Laws.ResultCell
namespace Go.Proofs.YtolmngfjdcoapaaDoor.sjobs
open Go.ChangeShapes Go.WideShapes Go.ChangeAt Go.RowKit
open Go.Proofs.YtolmngfjdcoapaaDoor.bytes Go.Proofs.YtolmngfjdcoapaaDoor.pile Go.Proofs.YtolmngfjdcoapaaDoor.put Go.Proofs.YtolmngfjdcoapaaDoor.jhelp Go.Proofs.YtolmngfjdcoapaaDoor.wr Go.Proofs.YtolmngfjdcoapaaDoor.jok Go.Proofs.YtolmngfjdcoapaaDoor.wjob Go.Proofs.YtolmngfjdcoapaaDoor.ijob Go.Proofs.YtolmngfjdcoapaaDoor.sjob
set_option linter.unusedVariables false

theorem specBytesI (w : World) (c s : Int) (F : ByteArray) (v : Int) (S T : ByteArray) (e q : Bool) (hR : jobB c s F.size v S.size T.size = true) :
    Calls Tryd.prog 19 #[.agg #[.int .i64 c, .int .i64 s, .string F, .int .i64 v, .string S, .string T, .bool e, .bool q]] w fun r w' => ∃ u, r = .returned u ∧ Own w' w.heap.size u (jobN c s F v S T e q) ∧ Below w.heap.size w w' := by
  obtain ⟨r1, r2, r3, r4, r5, r6⟩ := jobB_yes hR
  obtain ⟨C, rfl⟩ := Int.eq_ofNat_of_zero_le (show 0 ≤ c by omega)
  obtain ⟨Q, rfl⟩ := Int.eq_ofNat_of_zero_le (show 0 ≤ s by omega)
  obtain ⟨V, rfl⟩ := Int.eq_ofNat_of_zero_le (show 0 ≤ v by omega)
  exact specBytes w C Q V F S T e q hR
end Go.Proofs.YtolmngfjdcoapaaDoor.sjobs
