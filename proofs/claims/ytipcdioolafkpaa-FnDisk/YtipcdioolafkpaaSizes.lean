/- Contracts of the laws' own helpers on lists of bytes: how large they are, and a copy of them. -/
import Derived.Test.YtipcdioolafkpaaLists
namespace Go.Proofs.Ytipcdioolafkpaa.sizes
open Go.ChangeShapes Go.WideShapes Go.ChangeAt Go.RowKit
open Go.Proofs.Ytipcdioolafkpaa.bytes Go.Proofs.Ytipcdioolafkpaa.pile Go.Proofs.Ytipcdioolafkpaa.reader Go.Proofs.Ytipcdioolafkpaa.lists
set_option linter.unusedVariables false

/-- An answer that is a list of lists of bytes, in memory of its own. -/
structure Ans (w : World) (base : Nat) (v : Value) (us : List Value) (xss : List (List Int)) : Prop where
  row : w.ownsRow base 22 1 v us.length us
  pile : Pile w base us xss
theorem Ans.rdS {w : World} {base : Nat} {v : Value} {us : List Value} {xss : List (List Int)} (h : Ans w base v us xss) : RdS w v us := row_rdS h.row
theorem Ans.texts {w : World} {base : Nat} {v : Value} {us : List Value} {xss : List (List Int)} (h : Ans w base v us xss) : Texts w us xss := h.pile.texts
theorem row_below {w w' : World} {base B : Nat} {a : Value} {us : List Value} {n : Nat} (h : w.ownsRow base 22 1 a n us) (hb : Below B w w') (hB : w.heap.size ≤ B) : w'.ownsRow base 22 1 a n us := by
  obtain ⟨h1, h2 | ⟨g, c, cur, rfl, hbg, hg, r⟩⟩ := h
  · exact ⟨h1, .inl h2⟩
  · exact ⟨h1, .inr ⟨g, c, cur, rfl, hbg, (hb.block g (Nat.lt_of_lt_of_le (Array.getElem?_eq_some_iff.1 hg).1 hB)).trans hg, r⟩⟩
theorem Ans.below {w w' : World} {base B : Nat} {v : Value} {us : List Value} {xss : List (List Int)} (h : Ans w base v us xss) (hb : Below B w w') (hB : w.heap.size ≤ B) : Ans w' base v us xss := ⟨row_below h.row hb hB, h.pile.below hb hB⟩
/-- It stays as it is where a row of elder memory is written. -/
theorem Ans.kept {w w' : World} {base : Nat} {v : Value} {us : List Value} {xss : List (List Int)} {row : Option Nat} (h : Ans w base v us xss) (hg : w.grownBy w' row) (hlt : ∀ k, row = some k → k < base) : Ans w' base v us xss where
  row := World.ownsRow.kept h.row hg (by
    cases hv : v.ownBlock with
    | none => exact .inl rfl
    | some k => exact .inr fun e => by have h1 := hlt k e.symm; have h2 := (World.ownsRow.lt h.row k hv).1; omega)
  pile := ⟨h.pile.1, fun i hi => own_kept (h.pile.2.1 i hi) hg (by
    cases hv : (us.getD i (.slice none 0 0)).ownBlock with
    | none => exact .inl rfl
    | some k => exact .inr fun e => by have h1 := hlt k e.symm; have h2 := ((h.pile.2.1 i hi).lt k hv).1; omega), h.pile.2.2⟩
/-- It lies all from base on: what leaves the blocks from base to its world's end alone leaves it alone. -/
theorem Ans.span {w w' : World} {base : Nat} {v : Value} {us : List Value} {xss : List (List Int)} (h : Ans w base v us xss) (hs : ∀ k, base ≤ k → k < w.heap.size → w'.heap[k]? = w.heap[k]?) : Ans w' base v us xss where
  row := by
    obtain ⟨h1, h2 | ⟨g, c, cur, rfl, hbg, hg, r⟩⟩ := h.row
    · exact ⟨h1, .inl h2⟩
    · exact ⟨h1, .inr ⟨g, c, cur, rfl, hbg, (hs g hbg (Array.getElem?_eq_some_iff.1 hg).1).trans hg, r⟩⟩
  pile := ⟨h.pile.1, fun i hi => ⟨(h.pile.2.1 i hi).1, by
    obtain ⟨h1, h2 | ⟨g, c, cur, hv, hbg, hg, r⟩⟩ := (h.pile.2.1 i hi).2
    · exact ⟨h1, .inl h2⟩
    · exact ⟨h1, .inr ⟨g, c, cur, hv, hbg, (hs g hbg (Array.getElem?_eq_some_iff.1 hg).1).trans hg, r⟩⟩⟩, h.pile.2.2⟩

theorem made_rows (n : Nat) : (madeCells (Value.slice none 0 0).cells (n * 1)).toList = List.replicate n (Value.slice none 0 0) := by
  rw [Nat.mul_one]
  exact (toList_madeCells_one (.slice none 0 0) n).trans (by simp)
theorem info22' : (Try.prog.info? 22).map (fun i => (i.zero, i.size, i.bytes)) = some (some (.slice none 0 0), 1, 24) := by kernel_rfl
theorem set_next {α : Type} (l : List α) (z u : α) (n k : Nat) (hl : l.length = k) (hk : k < n) : (l ++ List.replicate (n - k) z).set k u = (l ++ [u]) ++ List.replicate (n - (k + 1)) z := by
  have h2 : n - k = (n - (k + 1)) + 1 := by omega
  rw [List.set_append_right _ _ (by omega), hl, Nat.sub_self, h2, List.replicate_succ, List.set_cons_zero, List.append_assoc]
  rfl
theorem take_next {α : Type} (l : List α) (d : α) {k : Nat} (h : k < l.length) : l.take (k + 1) = l.take k ++ [l.getD k d] := by
  have e : l.getD k d = l[k] := by simp [List.getD_eq_getElem?_getD, h]
  rw [List.take_succ_eq_append_getElem h, e]

/-- A copy of lists. -/
def CopyOf (w : World) (xss : List (List Int)) (v : Value) (w' : World) : Prop := ∃ vs, Ans w' w.heap.size v vs xss ∧ Below w.heap.size w w'

end Go.Proofs.Ytipcdioolafkpaa.sizes
