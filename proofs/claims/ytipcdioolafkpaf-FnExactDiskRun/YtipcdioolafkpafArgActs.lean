/- What comes in as a list of acts reads as acts. -/
import Derived.Test.YtipcdioolafkpafArgs
import Derived.Test.YtipcdioolafkpafActRows
import Derived.Lib.SmallJoins
import Derived.Deep.SlicePairs
namespace Go.Proofs.Ytipcdioolafkpaf.givenacts
open Go.ChangeShapes Go.WideShapes Go.ChangeAt Go.RowKit
open Go.Proofs.Ytipcdioolafkpaf.bytes Go.Proofs.Ytipcdioolafkpaf.pile Go.Proofs.Ytipcdioolafkpaf.given Go.Proofs.Ytipcdioolafkpaf.acts Go.Proofs.Ytipcdioolafkpaf.implrun Go.Proofs.Ytipcdioolafkpaf.actrows
set_option linter.unusedVariables false

section
variable {H : Type} {enc : TypeId × Value → H} {w : World} {base : Nat} {held : Bool}
theorem int_cell {fuel : Nat} {v : Value} {x : DataW H × List MemPlace} (hf : DataW.trod enc Try.prog w base (fun _ => true) held fuel 3 [v] = some x) : ∃ n : Int, v = .int .i64 n ∧ -9223372036854775808 ≤ n ∧ n ≤ 9223372036854775807 := by
  obtain ⟨n', h, hx, hw⟩ := DataW.trod_int Try.underlying3 hf
  simp only [List.cons.injEq, and_true] at h
  refine ⟨n', h, ?_⟩
  simpa [Lit.wf, IntKind.min, IntKind.max, IntKind.signed, IntKind.bits] using hw
theorem c3 : Try.prog.cellsOf 3 = 1 := by kernel_rfl
theorem c22 : Try.prog.cellsOf 22 = 1 := by kernel_rfl
theorem c71 : Try.prog.cellsOf 71 = 4 := by kernel_rfl

set_option maxRecDepth 100000 in
theorem open_acts {fuel : Nat} {cs : List Value} {x : DataW H × List MemPlace} (hf : DataW.trod enc Try.prog w base (fun _ => true) held fuel 39 cs = some x) : ∃ v al, cs = [v] ∧ RdActs w v al ∧ ∀ a ∈ al, a.keep ≤ 9223372036854775807 ∧ a.torn ≤ 9223372036854775807 := by
  rcases Go.Deep.open_slice Try.underlying39 hf with ⟨hcs, _⟩ | ⟨a, len, cap, m, n, D, Pl, hcs, hb, hl, hm, hmm, _, hx⟩
  · exact ⟨_, [], hcs, ⟨none, 0, rfl, by simp, by simp [maxLen], by simp⟩, by simp⟩
  · have hmc : m = cap := by rw [hmm]; rfl
    have each : ∀ i, i < len → ∃ q : Act4 × Value, (w.cell? (a.add (i * 4)) = some (.int .i64 q.1.kind) ∧ w.cell? (a.add (i * 4 + 1)) = some (.int .i64 q.1.keep) ∧ w.cell? (a.add (i * 4 + 2)) = some (.int .i64 q.1.torn) ∧ w.cell? (a.add (i * 4 + 3)) = some q.2 ∧ RdA w q.2 q.1.data) ∧ q.1.keep ≤ 9223372036854775807 ∧ q.1.torn ≤ 9223372036854775807 := fun i hi => by
      obtain ⟨cs', h1, h2⟩ := hx i (by omega)
      rw [c71] at h1
      obtain ⟨_, hlen, hcell⟩ := World.cells?_some h1
      obtain ⟨xs, k, _, _, _, hxl, hfs⟩ := DataW.trod_struct Try.underlying71 h2
      match xs, hxl, cs', hlen with
      | [y0, y1, y2, y3], _, [v0, v1, v2, v3], _ =>
        have g0 := hfs 0 _ rfl
        have g1 := hfs 1 _ rfl
        have g2 := hfs 2 _ rfl
        have g3 := hfs 3 _ rfl
        simp [c3, c22] at g0 g1 g2 g3
        have e0 := hcell 0 (by omega)
        have e1 := hcell 1 (by omega)
        have e2 := hcell 2 (by omega)
        have e3 := hcell 3 (by omega)
        rw [Go.Deep.add_add] at e0 e1 e2 e3
        obtain ⟨t, rfl, _⟩ := int_cell g0
        obtain ⟨j, rfl, _, hj⟩ := int_cell g1
        obtain ⟨l, rfl, _, hl'⟩ := int_cell g2
        obtain ⟨u, ys, hu, hr⟩ := open_bytes g3
        simp only [List.cons.injEq, and_true] at hu
        subst hu
        exact ⟨(⟨t, j, l, ys⟩, v3), ⟨by simpa using e0, by simpa using e1, by simpa using e2, by simpa using e3, hr⟩, hj, hl'⟩
    haveI : Inhabited (Act4 × Value) := ⟨(⟨0, 0, 0, []⟩, .slice none 0 0)⟩
    obtain ⟨q, hq⟩ := Go.Deep.choose_lt each
    refine ⟨_, (List.range len).map (fun i => (q i).1), hcs, ⟨some a, cap, by simp, by simpa using hl, hm, fun hp => ?_⟩, fun x hx => ?_⟩
    · have hp' : 0 < len := by simpa using hp
      have hs := spot_none (hq 0 hp').1.1
      obtain ⟨b, off, spot⟩ := a
      simp only at hs
      subst hs
      refine ⟨b, off, rfl, fun k hk => ?_⟩
      have hk' : k < len := by simpa using hk
      obtain ⟨⟨x0, x1, x2, x3, xr⟩, _⟩ := hq k hk'
      rw [add_at] at x0 x1 x2 x3
      simp only [List.getD_eq_getElem?_getD, List.getElem?_map, List.getElem?_range hk', Option.map_some, Option.getD_some]
      exact ⟨(q k).2, xr, x0, x1, x2, x3⟩
    · simp only [List.mem_map, List.mem_range] at hx
      obtain ⟨i, hi, rfl⟩ := hx
      exact (hq i hi).2
end
end Go.Proofs.Ytipcdioolafkpaf.givenacts
