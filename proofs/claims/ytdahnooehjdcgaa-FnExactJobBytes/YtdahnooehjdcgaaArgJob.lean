/- What comes in as a job is its eight fields. -/
import Derived.Test.YtdahnooehjdcgaaSJobs
import Derived.Lib.SmallJoins
namespace Go.Proofs.Ytdahnooehjdcgaa.argjob
open Go.ChangeShapes Go.WideShapes Go.ChangeAt Go.RowKit
open Go.Joins
set_option linter.unusedVariables false

theorem array8 {α : Type} {cs : Array α} (h : cs.size = 8) : ∃ c0 c1 c2 c3 c4 c5 c6 c7, cs = #[c0, c1, c2, c3, c4, c5, c6, c7] := by
  obtain ⟨l⟩ := cs
  match l, h with
  | [c0, c1, c2, c3, c4, c5, c6, c7], _ => exact ⟨c0, c1, c2, c3, c4, c5, c6, c7, rfl⟩
theorem list8 {α : Type} {l : List α} (h : l.length = 8) : ∃ c0 c1 c2 c3 c4 c5 c6 c7, l = [c0, c1, c2, c3, c4, c5, c6, c7] := by
  match l, h with
  | [c0, c1, c2, c3, c4, c5, c6, c7], _ => exact ⟨c0, c1, c2, c3, c4, c5, c6, c7, rfl⟩
theorem cells23 : Try.prog.cellsOf 23 = 8 := by kernel_rfl
theorem cells3 : Try.prog.cellsOf 3 = 1 := by kernel_rfl
theorem cells4 : Try.prog.cellsOf 4 = 1 := by kernel_rfl
theorem cells9 : Try.prog.cellsOf 9 = 1 := by kernel_rfl

section
variable {H : Type} {enc : TypeId × Value → H} {w : World} {base : Nat} {held : Bool}
theorem int_cell {fuel : Nat} {v : Value} {x : DataW H × List MemPlace} (hf : DataW.trod enc Try.prog w base (fun _ => true) held fuel 3 [v] = some x) : ∃ n : Int, v = .int .i64 n := by
  obtain ⟨n', h, hx, hw⟩ := DataW.trod_int Try.underlying3 hf
  simp only [List.cons.injEq, and_true] at h
  exact ⟨n', h⟩
theorem bool_cell {fuel : Nat} {v : Value} {x : DataW H × List MemPlace} (hf : DataW.trod enc Try.prog w base (fun _ => true) held fuel 4 [v] = some x) : ∃ b : Bool, v = .bool b := by
  obtain ⟨n', h, hx⟩ := DataW.trod_bool Try.underlying4 hf
  simp only [List.cons.injEq, and_true] at h
  exact ⟨n', h⟩
theorem str_cell {fuel : Nat} {v : Value} {x : DataW H × List MemPlace} (hf : DataW.trod enc Try.prog w base (fun _ => true) held fuel 9 [v] = some x) : ∃ b : ByteArray, v = .string b ∧ b.size ≤ maxLen := by
  obtain ⟨n', h, hx, hm⟩ := DataW.trod_string Try.underlying9 hf
  simp only [List.cons.injEq, and_true] at h
  exact ⟨n', h, hm⟩

set_option maxRecDepth 100000 in
theorem open_job {r : Reach} {b0 : Nat} {a : Value} {d : DataW H} {p : List MemPlace} (hv : Value.okWide Try.prog w r b0 23 a) (h : DataW.Trod enc Try.prog w base (fun _ => true) held 23 a d p) :
    ∃ (c s : Int) (F : ByteArray) (v : Int) (S T : ByteArray) (e q : Bool), a = .agg #[.int .i64 c, .int .i64 s, .string F, .int .i64 v, .string S, .string T, .bool e, .bool q] ∧ F.size ≤ maxLen ∧ S.size ≤ maxLen ∧ T.size ≤ maxLen := by
  obtain ⟨cs, rfl, hsz⟩ := okWide_struct Try.underlying23 hv
  obtain ⟨c0, c1, c2, c3, c4, c5, c6, c7, rfl⟩ := array8 (hsz.trans cells23)
  obtain ⟨fuel, hf⟩ := h
  obtain ⟨xs, n, _, hx, hl, hlen, hg⟩ := DataW.trod_struct Try.underlying23 hf
  obtain ⟨y0, y1, y2, y3, y4, y5, y6, y7, rfl⟩ := list8 hlen
  have h0 := hg 0 _ rfl
  have h1 := hg 1 _ rfl
  have h2 := hg 2 _ rfl
  have h3 := hg 3 _ rfl
  have h4 := hg 4 _ rfl
  have h5 := hg 5 _ rfl
  have h6 := hg 6 _ rfl
  have h7 := hg 7 _ rfl
  clear hg hl hx hf hlen
  simp [Value.cells, cells3, cells4, cells9] at h0 h1 h2 h3 h4 h5 h6 h7
  obtain ⟨c, rfl⟩ := int_cell h0
  obtain ⟨s, rfl⟩ := int_cell h1
  obtain ⟨F, rfl, hF⟩ := str_cell h2
  obtain ⟨v, rfl⟩ := int_cell h3
  obtain ⟨S, rfl, hS⟩ := str_cell h4
  obtain ⟨T, rfl, hT⟩ := str_cell h5
  obtain ⟨e, rfl⟩ := bool_cell h6
  obtain ⟨q, rfl⟩ := bool_cell h7
  exact ⟨c, s, F, v, S, T, e, q, rfl, hF, hS, hT⟩
end
end Go.Proofs.Ytdahnooehjdcgaa.argjob
