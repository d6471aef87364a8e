/- What comes in as a record reads as its numbers and its bytes. -/
import Derived.Test.YtipcdioolafkpagArgs
import Derived.Lib.SmallJoins
namespace Go.Proofs.Ytipcdioolafkpag.givenrec
open Go.ChangeShapes Go.WideShapes Go.ChangeAt Go.RowKit
open Go.Proofs.Ytipcdioolafkpag.bytes Go.Proofs.Ytipcdioolafkpag.pile Go.Proofs.Ytipcdioolafkpag.given
set_option linter.unusedVariables false

open Go.Joins
section
variable {H : Type} {enc : TypeId × Value → H} {w : World} {base : Nat} {held : Bool}

theorem int_cell {fuel : Nat} {v : Value} {x : DataW H × List MemPlace} (hf : DataW.trod enc Try.prog w base (fun _ => true) held fuel 3 [v] = some x) : ∃ n : Int, v = .int .i64 n ∧ -9223372036854775808 ≤ n ∧ n ≤ 9223372036854775807 := by
  obtain ⟨n', h, hx, hw⟩ := DataW.trod_int Try.underlying3 hf
  simp only [List.cons.injEq, and_true] at h
  refine ⟨n', h, ?_⟩
  simpa [Lit.wf, IntKind.min, IntKind.max, IntKind.signed, IntKind.bits] using hw

theorem cellsRec : Try.prog.cellsOf 40 = 3 := by kernel_rfl
set_option maxRecDepth 100000 in
theorem open_rec {r : Reach} {b0 : Nat} {v : Value} {d : DataW H} {p : List MemPlace} (hv : Value.okWide Try.prog w r b0 40 v) (h : DataW.Trod enc Try.prog w base (fun _ => true) held 40 v d p) :
    ∃ (t i : Int) (u : Value) (ys : List Int), v = .agg #[.int .i64 t, .int .i64 i, u] ∧ RdA w u ys ∧ (-9223372036854775808 ≤ t ∧ t ≤ 9223372036854775807) ∧ (-9223372036854775808 ≤ i ∧ i ≤ 9223372036854775807) := by
  obtain ⟨v0, v1, v2, y0, y1, y2, n, rfl, _, _, h0, h1, h2⟩ := open_agg3 Try.underlying40 (by kernel_rfl) cellsRec hv h
  obtain ⟨t, rfl, ht⟩ := int_cell h0
  obtain ⟨i, rfl, hi⟩ := int_cell h1
  obtain ⟨u, ys, hu, hr⟩ := open_bytes h2
  simp only [List.cons.injEq, and_true] at hu
  subst hu
  exact ⟨t, i, _, ys, rfl, hr, ht, hi⟩
end
end Go.Proofs.Ytipcdioolafkpag.givenrec
