/- All blocks of a log lie below a bound. -/
import Derived.Test.YtipcdioolafkpaaLogCells
namespace Go.Proofs.Ytipcdioolafkpaa.lowc
open Go.ChangeShapes Go.WideShapes Go.ChangeAt Go.RowKit
set_option linter.unusedVariables false

/-- All of its blocks lie below H. -/
def Low (lv : Value) (us : List Value) (H : Nat) : Prop := (∀ k, lv.ownBlock = some k → k < H) ∧ ∀ u ∈ us, ∀ k, u.ownBlock = some k → k < H
theorem Low.mono {lv : Value} {us : List Value} {H H' : Nat} (h : Low lv us H) (hh : H ≤ H') : Low lv us H' := ⟨fun k hk => Nat.lt_of_lt_of_le (h.1 k hk) hh, fun u hu k hk => Nat.lt_of_lt_of_le (h.2 u hu k hk) hh⟩
end Go.Proofs.Ytipcdioolafkpaa.lowc
