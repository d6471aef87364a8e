/- A word is looked up in the program's table. -/
import Derived.Test.YtolmngfjdcoapaaDoorEw
import Derived.Test.YtolmngfjdcoapaaDoorSwords
namespace Go.Proofs.YtolmngfjdcoapaaDoor.ew
open Go.ChangeShapes Go.WideShapes Go.ChangeAt Go.RowKit
open Go.Proofs.YtolmngfjdcoapaaDoor.bytes
set_option linter.unusedVariables false
/-- What a word names: the function and its kind. -/
def kindOf (A : ByteArray) : Option (Nat × Int) :=
  if A = N7 then some (21, 7) else if A = N6 then some (20, 6) else if A = N5 then some (20, 5) else if A = N4 then some (20, 4) else if A = N3 then some (20, 3) else if A = N2 then some (20, 2) else if A = N1 then some (20, 1) else none
theorem isMap_put {D : DataW Unit} (h : Maps.IsMap D) (k : Lit) (d : DataW Unit) : Maps.IsMap (D.put k d) := by
  obtain ⟨es, rfl⟩ := h
  exact ⟨_, rfl⟩
theorem m0 : Maps.IsMap D0 := Maps.isMap_empty
theorem m1 : Maps.IsMap D1 := isMap_put m0 _ _
theorem m2 : Maps.IsMap D2 := isMap_put m1 _ _
theorem m3 : Maps.IsMap D3 := isMap_put m2 _ _
theorem m4 : Maps.IsMap D4 := isMap_put m3 _ _
theorem m5 : Maps.IsMap D5 := isMap_put m4 _ _
theorem m6 : Maps.IsMap D6 := isMap_put m5 _ _
theorem m7 : Maps.IsMap D7 := isMap_put m6 _ _
theorem isk (l : List UInt8) : WideAt.IsKeyLit (.string l) := trivial
theorem key_ne {A B : ByteArray} (h : A ≠ B) : Lit.string A.data.toList ≠ Lit.string B.data.toList := fun e => h (swords.of_list (Lit.string.inj e))
theorem has_kind (A : ByteArray) : Maps.has D7 (.string A.data.toList) = (kindOf A).isSome ∧ ∀ f k, kindOf A = some (f, k) → ∀ z, D7.atKey (.string A.data.toList) z = dat f k := by
  unfold kindOf
  by_cases h7 : A = N7
  · rw [if_pos h7, h7]
    refine ⟨Maps.has_put_same m6 (isk N7.data.toList) _, fun f k e z => ?_⟩
    obtain ⟨rfl, rfl⟩ : 21 = f ∧ 7 = k := by simpa using e
    exact Maps.atKey_put_same m6 (isk N7.data.toList) _ _
  rw [if_neg h7, show D7 = D6.put (.string N7.data.toList) (dat 21 7) from rfl, Maps.has_put_other (key_ne h7)]
  simp only [Maps.atKey_put_other (key_ne h7)]
  by_cases h6 : A = N6
  · rw [if_pos h6, h6]
    refine ⟨Maps.has_put_same m5 (isk N6.data.toList) _, fun f k e z => ?_⟩
    obtain ⟨rfl, rfl⟩ : 20 = f ∧ 6 = k := by simpa using e
    exact Maps.atKey_put_same m5 (isk N6.data.toList) _ _
  rw [if_neg h6, show D6 = D5.put (.string N6.data.toList) (dat 20 6) from rfl, Maps.has_put_other (key_ne h6)]
  simp only [Maps.atKey_put_other (key_ne h6)]
  by_cases h5 : A = N5
  · rw [if_pos h5, h5]
    refine ⟨Maps.has_put_same m4 (isk N5.data.toList) _, fun f k e z => ?_⟩
    obtain ⟨rfl, rfl⟩ : 20 = f ∧ 5 = k := by simpa using e
    exact Maps.atKey_put_same m4 (isk N5.data.toList) _ _
  rw [if_neg h5, show D5 = D4.put (.string N5.data.toList) (dat 20 5) from rfl, Maps.has_put_other (key_ne h5)]
  simp only [Maps.atKey_put_other (key_ne h5)]
  by_cases h4 : A = N4
  · rw [if_pos h4, h4]
    refine ⟨Maps.has_put_same m3 (isk N4.data.toList) _, fun f k e z => ?_⟩
    obtain ⟨rfl, rfl⟩ : 20 = f ∧ 4 = k := by simpa using e
    exact Maps.atKey_put_same m3 (isk N4.data.toList) _ _
  rw [if_neg h4, show D4 = D3.put (.string N4.data.toList) (dat 20 4) from rfl, Maps.has_put_other (key_ne h4)]
  simp only [Maps.atKey_put_other (key_ne h4)]
  by_cases h3 : A = N3
  · rw [if_pos h3, h3]
    refine ⟨Maps.has_put_same m2 (isk N3.data.toList) _, fun f k e z => ?_⟩
    obtain ⟨rfl, rfl⟩ : 20 = f ∧ 3 = k := by simpa using e
    exact Maps.atKey_put_same m2 (isk N3.data.toList) _ _
  rw [if_neg h3, show D3 = D2.put (.string N3.data.toList) (dat 20 3) from rfl, Maps.has_put_other (key_ne h3)]
  simp only [Maps.atKey_put_other (key_ne h3)]
  by_cases h2 : A = N2
  · rw [if_pos h2, h2]
    refine ⟨Maps.has_put_same m1 (isk N2.data.toList) _, fun f k e z => ?_⟩
    obtain ⟨rfl, rfl⟩ : 20 = f ∧ 2 = k := by simpa using e
    exact Maps.atKey_put_same m1 (isk N2.data.toList) _ _
  rw [if_neg h2, show D2 = D1.put (.string N2.data.toList) (dat 20 2) from rfl, Maps.has_put_other (key_ne h2)]
  simp only [Maps.atKey_put_other (key_ne h2)]
  by_cases h1 : A = N1
  · rw [if_pos h1, h1]
    refine ⟨Maps.has_put_same m0 (isk N1.data.toList) _, fun f k e z => ?_⟩
    obtain ⟨rfl, rfl⟩ : 20 = f ∧ 1 = k := by simpa using e
    exact Maps.atKey_put_same m0 (isk N1.data.toList) _ _
  rw [if_neg h1, show D1 = D0.put (.string N1.data.toList) (dat 20 1) from rfl, Maps.has_put_other (key_ne h1)]
  simp only [Maps.atKey_put_other (key_ne h1)]
  exact ⟨rfl, fun f k e => by cases e⟩
theorem look_any {w : World} {b : Nat} (h : w.ownsMap Tryd.prog 9 R b 7 D7) (A : ByteArray) (hA : A.size ≤ maxLen) :
    ∃ v, (Instr.lookup 42 (.map (some b)) (.string A) true).run Tryd.prog w = .ok (.tuple #[v, .bool (kindOf A).isSome]) w ∧ ∀ f k, kindOf A = some (f, k) → v = .func (.func f) #[.int .i64 k] #[] := by
  obtain ⟨z, hz⟩ : ∃ z, (zeroValue 40).run Tryd.prog w = .ok z w := ⟨.nilFunc, by kernel_rfl⟩
  obtain ⟨y, hy⟩ : ∃ y, R z = some y := by
    unfold R
    split
    · exact ⟨_, rfl⟩
    · exact ⟨_, rfl⟩
  obtain ⟨v, ps, hrun, hR⟩ := h.look_ok (t := 42) (e := 40) (key := .string A) (kl := .string A.data.toList) k9 Tryd.underlying42 hz (zd := y.1) (zp := y.2) hy (by simp [keyOf, mapKey, Tryd.underlying9, hA])
  obtain ⟨k1, k2⟩ := has_kind A
  rw [k1] at hrun
  exact ⟨v, hrun, fun f k e => by rw [k2 f k e] at hR; exact R_inv hR⟩
end Go.Proofs.YtolmngfjdcoapaaDoor.ew
