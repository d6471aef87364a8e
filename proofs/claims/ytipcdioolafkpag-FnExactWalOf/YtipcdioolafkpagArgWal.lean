/- What comes in as a log's state reads as its numbers and its records. -/
import Derived.Test.YtipcdioolafkpagArgRec
import Derived.Test.YtipcdioolafkpagWalHelp
import Derived.Deep.SlicePairs
namespace Go.Proofs.Ytipcdioolafkpag.givenwal
open Go.ChangeShapes Go.WideShapes Go.ChangeAt Go.RowKit
open Go.Proofs.Ytipcdioolafkpag.bytes Go.Proofs.Ytipcdioolafkpag.pile Go.Proofs.Ytipcdioolafkpag.given Go.Proofs.Ytipcdioolafkpag.givenrec Go.Proofs.Ytipcdioolafkpag.rechelp Go.Proofs.Ytipcdioolafkpag.recrows Go.Proofs.Ytipcdioolafkpag.recmarks Go.Proofs.Ytipcdioolafkpag.walhelp
set_option linter.unusedVariables false

open Go.Joins
section
variable {H : Type} {enc : TypeId × Value → H} {w : World} {base : Nat} {held : Bool}

theorem c3 : Try.prog.cellsOf 3 = 1 := by kernel_rfl
theorem c22 : Try.prog.cellsOf 22 = 1 := by kernel_rfl
theorem c57 : Try.prog.cellsOf 57 = 1 := by kernel_rfl
theorem c59 : Try.prog.cellsOf 59 = 6 := by kernel_rfl

set_option maxRecDepth 100000 in
theorem open_recs {fuel : Nat} {cs : List Value} {x : DataW H × List MemPlace} (hf : DataW.trod enc Try.prog w base (fun _ => true) held fuel 57 cs = some x) : ∃ v rl us, cs = [v] ∧ RdRecs w v rl us := by
  rcases Go.Deep.open_slice Try.underlying57 hf with ⟨hcs, _⟩ | ⟨a, len, cap, m, n, D, Pl, hcs, hb, hl, hm, hmm, _, hx⟩
  · exact ⟨_, [], [], hcs, rfl, ⟨none, 0, rfl, by simp, by simp [maxLen], by simp⟩, fun k hk => by simp at hk⟩
  · have hmc : m = cap := by rw [hmm]; rfl
    have each : ∀ i, i < len → ∃ q : Rec3 × Value, w.cell? (a.add (i * 3)) = some (.int .i64 q.1.t) ∧ w.cell? (a.add (i * 3 + 1)) = some (.int .i64 q.1.i) ∧ w.cell? (a.add (i * 3 + 2)) = some q.2 ∧ RdA w q.2 q.1.d := fun i hi => by
      obtain ⟨cs', h1, h2⟩ := hx i (by omega)
      rw [cellsRec] at h1
      obtain ⟨_, hlen, hcell⟩ := World.cells?_some h1
      obtain ⟨xs, k, _, _, _, hxl, hfs⟩ := DataW.trod_struct Try.underlying40 h2
      match xs, hxl, cs', hlen with
      | [y0, y1, y2], _, [v0, v1, v2], _ =>
        have g0 := hfs 0 _ rfl
        have g1 := hfs 1 _ rfl
        have g2 := hfs 2 _ rfl
        simp [c3, c22] at g0 g1 g2
        have e0 := hcell 0 (by omega)
        have e1 := hcell 1 (by omega)
        have e2 := hcell 2 (by omega)
        rw [Go.Deep.add_add] at e0 e1 e2
        obtain ⟨t, rfl, _⟩ := int_cell g0
        obtain ⟨j, rfl, _⟩ := int_cell g1
        obtain ⟨u, ys, hu, hr⟩ := open_bytes g2
        simp only [List.cons.injEq, and_true] at hu
        subst hu
        exact ⟨(⟨t, j, ys⟩, v2), by simpa using e0, by simpa using e1, by simpa using e2, hr⟩
    haveI : Inhabited (Rec3 × Value) := ⟨(zRec, .slice none 0 0)⟩
    obtain ⟨q, hq⟩ := Go.Deep.choose_lt each
    refine ⟨_, (List.range len).map (fun i => (q i).1), (List.range len).map (fun i => (q i).2), hcs, by simp, ⟨some a, cap, by simp, by simpa using hl, hm, fun hp => ?_⟩, fun k hk => ?_⟩
    · have hp' : 0 < len := by simpa using hp
      have hs := spot_none (hq 0 hp').1
      obtain ⟨b, off, spot⟩ := a
      simp only at hs
      subst hs
      refine ⟨b, off, rfl, fun k hk => ?_⟩
      have hk' : k < len := by simpa using hk
      obtain ⟨x0, x1, x2, _⟩ := hq k hk'
      rw [add_at] at x0 x1 x2
      simp only [List.getD_eq_getElem?_getD, List.getElem?_map, List.getElem?_range hk', Option.map_some, Option.getD_some]
      exact ⟨x0, x1, x2⟩
    · have hk' : k < len := by simpa using hk
      simp only [List.getD_eq_getElem?_getD, List.getElem?_map, List.getElem?_range hk', Option.map_some, Option.getD_some]
      exact (hq k hk').2.2.2

set_option maxRecDepth 100000 in
theorem open_wal {r : Reach} {b0 : Nat} {v : Value} {d : DataW H} {p : List MemPlace} (hv : Value.okWide Try.prog w r b0 59 v) (h : DataW.Trod enc Try.prog w base (fun _ => true) held 59 v d p) :
    ∃ (a : Wal5) (u : Value) (rl : List Rec3) (us : List Value), v = .agg #[.int .i64 a.T, .int .i64 a.V, .int .i64 a.B, .int .i64 a.BT, u, .int .i64 a.G] ∧ RdRecs w u rl us := by
  obtain ⟨ca, rfl, hsz⟩ := okWide_struct Try.underlying59 hv
  obtain ⟨fuel, hf⟩ := h
  obtain ⟨xs, n, _, _, hl, hxl, hfs⟩ := DataW.trod_struct Try.underlying59 hf
  have hl6 : ca.toList.length = 6 := by rw [c59] at hl; simpa [Value.cells] using hl
  have hcl : (Value.agg ca).cells.toList = ca.toList := by simp [Value.cells]
  rw [hcl] at hfs
  have hca : ca = ca.toList.toArray := by simp
  generalize ca.toList = l at hl6 hfs hca
  subst hca
  match xs, hxl, l, hl6 with
  | [y0, y1, y2, y3, y4, y5], _, [v0, v1, v2, v3, v4, v5], _ =>
    have g0 := hfs 0 _ rfl
    have g1 := hfs 1 _ rfl
    have g2 := hfs 2 _ rfl
    have g3 := hfs 3 _ rfl
    have g4 := hfs 4 _ rfl
    have g5 := hfs 5 _ rfl
    simp [c3, c57] at g0 g1 g2 g3 g4 g5
    obtain ⟨T, rfl, _⟩ := int_cell g0
    obtain ⟨V, rfl, _⟩ := int_cell g1
    obtain ⟨B, rfl, _⟩ := int_cell g2
    obtain ⟨BT, rfl, _⟩ := int_cell g3
    obtain ⟨u, rl, us, hu, hr⟩ := open_recs g4
    obtain ⟨G, rfl, _⟩ := int_cell g5
    simp only [List.cons.injEq, and_true] at hu
    subst hu
    exact ⟨⟨T, V, B, BT, G⟩, _, rl, us, rfl, hr⟩
end
end Go.Proofs.Ytipcdioolafkpag.givenwal
