/- What is said, as a string. -/
import Derived.Test.YtdhachmelgdknaaGreatDoorNew
import Derived.Lib.BufferRead
namespace Go.Proofs.YtdhachmelgdknaaGreatDoor.run
open Go.ChangeShapes Go.WideShapes Go.ChangeAt Go.RowKit
set_option linter.unusedVariables false
theorem u22 : Tryz.prog.underlying 22 = some (.slice 5) := by kernel_rfl
theorem u5 : Tryz.prog.underlying 5 = some (.int .u8) := by kernel_rfl
theorem u9 : Tryz.prog.underlying 9 = some .string := by kernel_rfl
theorem sd_str {w : World} {base : Nat} {v : Value} {S : ByteArray} (h : SD w base v S) : (convert 22 9 v).run Tryz.prog w = .ok (.string S) w := by
  have hh := h
  obtain ⟨h1, ⟨e, hx⟩ | ⟨g, cap, cur, e, _⟩⟩ := h
  · subst e
    have hS : S = ⟨#[]⟩ := by
      cases S with
      | mk d => 
        have : d = #[] := Array.size_eq_zero_iff.1 hx
        rw [this]
    rw [hS]
    exact Lib.run_convert_nil_bytes w 22 9 5 0 u22 u5 u9
  · subst e
    have hl : S.data.toList.length = S.size := Array.length_toList
    have := run_convert_bytes_back (P := Tryz.prog) w 22 9 5 ⟨g, 0, none⟩ cap S.data.toList u22 u5 u9 (fun j hj => by
      refine World.ownsRow.cells hh (g := g) rfl j _ ?_
      simp [Lib.strCells, List.getElem?_eq_getElem hj])
    rw [hl] at this
    simpa using this
end Go.Proofs.YtdhachmelgdknaaGreatDoor.run
