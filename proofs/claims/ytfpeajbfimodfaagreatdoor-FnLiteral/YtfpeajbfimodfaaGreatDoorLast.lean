/- The last of some places. -/
import Derived.Test.YtfpeajbfimodfaaGreatDoorSets
namespace Go.Proofs.YtfpeajbfimodfaaGreatDoor.lastp
open Go.ChangeShapes Go.WideShapes Go.ChangeAt Go.RowKit
open Go.Proofs.YtfpeajbfimodfaaGreatDoor.bytes Go.Proofs.YtfpeajbfimodfaaGreatDoor.places Go.Proofs.YtfpeajbfimodfaaGreatDoor.sets
set_option linter.unusedVariables false

set_option maxHeartbeats 2000000 in
theorem last_none (w : World) :
    Calls Tryz.prog 28 #[psV 0] w fun r w' => r = .returned (.int .i64 (-1)) ∧ Below w.heap.size w w' := by
  unfold psV
  go_enter Tryz.func28, Tryz.ntmps28
  go_wp2
  go_loop [3] (fun iv => iv = .int .i64 1 ∨ iv = .int .i64 0 ∨ iv = .int .i64 (-1)) (fun iv => (intOf iv + 1).toNat)
  case atStart => exact .inl rfl
  case round =>
    rcases hrel with rfl | rfl | rfl
    · go_wp2
      go_round
      case rel => exact .inr (.inl rfl)
      case measure => simp [intOf]
    · go_wp2
      go_round
      case rel => exact .inr (.inr rfl)
      case measure => simp [intOf]
    · go_wp2
      go_ret
      exact ⟨rfl, (Below.refl _ _).alloc (Nat.le_refl _) _⟩
set_option maxHeartbeats 2000000 in
theorem last_one (w : World) (e : Nat) (he : e ≤ 22) :
    Calls Tryz.prog 28 #[psV (2 ^ e)] w fun r w' => r = .returned (.int .i64 (e : Int)) ∧ Below w.heap.size w w' := by
  unfold psV
  have HL := hide (fun W => len_any W e he)
  have hp : 0 < 2 ^ e := Nat.pow_pos (by decide)
  generalize 2 ^ e = b at HL hp ⊢
  have hne : ((b : Int) != 0) = true := by simp; omega
  go_enter Tryz.func28, Tryz.ntmps28
  go_wp2
  go_loop [3] (fun iv => iv = .int .i64 1 ∨ iv = .int .i64 0) (fun iv => (intOf iv + 1).toNat)
  case atStart => exact .inl rfl
  case round =>
    rcases hrel with rfl | rfl
    · go_wp2
      go_round
      case rel => exact .inr rfl
      case measure => simp [intOf]
    · go_wp2_with fail
      refine (HL.out _).mono ?_
      rintro r w1 ⟨rfl, hw1⟩
      replace hw1 := hw1.symm
      subst hw1
      clear HL
      go_wp2
      go_ret
      refine ⟨?_, (Below.refl _ _).alloc (Nat.le_refl _) _⟩
      exact ret_int (by omega)
end Go.Proofs.YtfpeajbfimodfaaGreatDoor.lastp
