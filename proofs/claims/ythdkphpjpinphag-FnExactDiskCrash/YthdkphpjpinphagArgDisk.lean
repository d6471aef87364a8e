/- What comes in as a disk reads as its synced bytes and its writes. -/
import Derived.Test.YthdkphpjpinphagArgs
namespace Go.Proofs.Ythdkphpjpinphag.givendisk
open Go.ChangeShapes Go.WideShapes Go.ChangeAt Go.RowKit
open Go.Proofs.Ythdkphpjpinphag.bytes Go.Proofs.Ythdkphpjpinphag.pile Go.Proofs.Ythdkphpjpinphag.given
set_option linter.unusedVariables false
section
variable {H : Type} {enc : TypeId × Value → H} {w : World} {base : Nat} {held : Bool}

theorem open_disk {fuel : Nat} {cs : List Value} {x : DataW H × List MemPlace} (hf : DataW.trod enc Try.prog w base (fun _ => true) held fuel 25 cs = some x) :
    ∃ s p xs us xss, cs = [s, p] ∧ RdA w s xs ∧ RdS w p us ∧ Texts w us xss := by
  obtain ⟨y0, y1, n, _, hl, hy0, hy1⟩ := trod_struct2 Try.underlying25 hf
  have h2 : Try.prog.cellsOf 25 = 2 := by kernel_rfl
  have h22 : Try.prog.cellsOf 22 = 1 := by kernel_rfl
  have h23 : Try.prog.cellsOf 23 = 1 := by kernel_rfl
  rw [h2] at hl
  match cs, hl with
  | [a, b], _ =>
    simp only [h22, h23] at hy0 hy1
    have e0 : DataW.trod enc Try.prog w base (fun _ => true) held n 22 [a] = some y0 := hy0
    have e1 : DataW.trod enc Try.prog w base (fun _ => true) held n 23 [b] = some y1 := hy1
    obtain ⟨v, xs, hv, hr⟩ := open_bytes e0
    obtain ⟨v', us, xss, hv', hr1, hr2⟩ := open_lists e1
    simp only [List.cons.injEq, and_true] at hv hv'
    subst hv
    subst hv'
    exact ⟨a, b, xs, us, xss, rfl, hr, hr1, hr2⟩
end
end Go.Proofs.Ythdkphpjpinphag.givendisk
