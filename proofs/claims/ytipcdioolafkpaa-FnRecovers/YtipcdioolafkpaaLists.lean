/- Contracts of the laws' own helpers on lists of bytes: equal, marked, held. -/
import Derived.Test.YtipcdioolafkpaaReader
namespace Go.Proofs.Ytipcdioolafkpaa.lists
open Go.ChangeShapes Go.WideShapes Go.ChangeAt Go.RowKit
open Go.Proofs.Ytipcdioolafkpaa.bytes Go.Proofs.Ytipcdioolafkpaa.pile Go.Proofs.Ytipcdioolafkpaa.reader
set_option linter.unusedVariables false

/-- The lists as they are when the first k of them are marked. -/
def mkL (q : Int) (xss : List (List Int)) (k i : Nat) : List Int := if i < k then marks (q + sizeTo xss i) (xss.getD i []).length else xss.getD i []

/-- So many of the lists are marked, the others are as they were. -/
structure MP (w : World) (base : Nat) (a : Value) (us : List Value) (xss : List (List Int)) (q : Int) (k : Nat) : Prop where
  row : w.ownsRow base 22 1 a us.length us
  len : us.length = xss.length
  each : ∀ i, i < us.length → Own w base (us.getD i (.slice none 0 0)) (mkL q xss k i)
  apart : ∀ i j, i < us.length → j < us.length → i ≠ j → ∀ g, (us.getD i (.slice none 0 0)).ownBlock = some g → (us.getD j (.slice none 0 0)).ownBlock ≠ some g

theorem row_rdS {w : World} {base : Nat} {a : Value} {us : List Value} (h : w.ownsRow base 22 1 a us.length us) : RdS w a us := by
  have h' := h
  obtain ⟨h1, ⟨rfl, h2⟩ | ⟨g, cap, cur, rfl, hb, hg, hnc, hcm, hcs, htake⟩⟩ := h
  · exact ⟨none, 0, by rw [h2], by omega, by simp [maxLen], fun hp => by omega⟩
  · refine ⟨_, cap, rfl, hnc, hcm, fun hp => ⟨g, 0, rfl, fun i hi => ?_⟩⟩
    have := World.ownsRow.cellAt h' i (by omega)
    rw [Nat.zero_add, this]
    simp [List.getD_eq_getElem?_getD, hi]

theorem mk_all (q : Int) (xss : List (List Int)) {k i : Nat} (h : i < k) : mkL q xss k i = marks (q + sizeTo xss i) (xss.getD i []).length := by rw [mkL, if_pos h]
theorem mk_none (q : Int) (xss : List (List Int)) {k i : Nat} (h : ¬ i < k) : mkL q xss k i = xss.getD i [] := by rw [mkL, if_neg h]

theorem row_ne' {w : World} {base pb : Nat} {v : Value} {xs : List Int} {pv : Value} {n : Nat} {us : List Value} (h : Own w base v xs) (hp : w.ownsRow pb 22 1 pv n us) : pv.ownBlock = none ∨ pv.ownBlock ≠ v.ownBlock := by
  cases hv : pv.ownBlock with
  | none => exact .inl rfl
  | some k =>
    refine .inr fun e => ?_
    obtain ⟨c1, h1⟩ := own_typed h.2 e.symm
    obtain ⟨c2, h2⟩ := own_typed hp hv
    rw [h1] at h2
    simp at h2

theorem MP.step {w w' : World} {base : Nat} {a : Value} {us : List Value} {xss : List (List Int)} {q : Int} {k : Nat} (h : MP w base a us xss q k) (hk : k < us.length)
    (hm : Own w' base (us.getD k (.slice none 0 0)) (marks (q + sizeTo xss k) (xss.getD k []).length)) (hg : w.grownBy w' (us.getD k (.slice none 0 0)).ownBlock) : MP w' base a us xss q (k + 1) where
  row := World.ownsRow.kept h.row hg (row_ne' (h.each k hk) h.row)
  len := h.len
  each := fun i hi => by
    by_cases e : i = k
    · subst e
      rw [mk_all q xss (by omega)]
      exact hm
    · have : mkL q xss (k + 1) i = mkL q xss k i := by
        by_cases h1 : i < k
        · rw [mk_all q xss h1, mk_all q xss (by omega)]
        · rw [mk_none q xss h1, mk_none q xss (by omega)]
      rw [this]
      refine own_kept (h.each i hi) hg ?_
      cases hv : (us.getD i (.slice none 0 0)).ownBlock with
      | none => exact .inl rfl
      | some g => exact .inr fun e2 => h.apart i k hi hk e g hv e2.symm
  apart := h.apart

theorem MP.of_pile {w : World} {base : Nat} {a : Value} {us : List Value} {xss : List (List Int)} (q : Int) (hr : w.ownsRow base 22 1 a us.length us) (hp : Pile w base us xss) : MP w base a us xss q 0 :=
  ⟨hr, hp.1, fun i hi => by rw [mk_none q xss (by omega)]; exact hp.2.1 i hi, hp.2.2⟩
theorem MP.below {w w' : World} {base : Nat} {a : Value} {us : List Value} {xss : List (List Int)} {q : Int} {k : Nat} (h : MP w base a us xss q k) (hb : Below w.heap.size w w') : MP w' base a us xss q k where
  row := by
    obtain ⟨h1, h2 | ⟨g, c, cur, rfl, hbg, hg, r⟩⟩ := h.row
    · exact ⟨h1, .inl h2⟩
    · exact ⟨h1, .inr ⟨g, c, cur, rfl, hbg, (hb.block g (Array.getElem?_eq_some_iff.1 hg).1).trans hg, r⟩⟩
  len := h.len
  each := fun i hi => (h.each i hi).below hb (Nat.le_refl _)
  apart := h.apart
end Go.Proofs.Ytipcdioolafkpaa.lists
