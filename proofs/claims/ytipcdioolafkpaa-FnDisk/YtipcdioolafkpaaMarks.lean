/- Lists of bytes that are marked: what else stays as it was. -/
import Derived.Test.YtipcdioolafkpaaSizes
namespace Go.Proofs.Ytipcdioolafkpaa.marked
open Go.ChangeShapes Go.WideShapes Go.ChangeAt Go.RowKit
open Go.Proofs.Ytipcdioolafkpaa.bytes Go.Proofs.Ytipcdioolafkpaa.pile Go.Proofs.Ytipcdioolafkpaa.reader Go.Proofs.Ytipcdioolafkpaa.lists Go.Proofs.Ytipcdioolafkpaa.sizes
set_option linter.unusedVariables false

/-- The blocks from lo to hi are in w' as they were in w. -/
def Keep (lo hi : Nat) (w w' : World) : Prop := ∀ k, lo ≤ k → k < hi → w'.heap[k]? = w.heap[k]?
theorem Keep.refl (lo hi : Nat) (w : World) : Keep lo hi w w := fun _ _ _ => rfl
theorem Keep.trans {lo hi : Nat} {a b c : World} (h : Keep lo hi a b) (g : Keep lo hi b c) : Keep lo hi a c := fun k h1 h2 => (g k h1 h2).trans (h k h1 h2)
theorem Keep.of_below {lo hi B : Nat} {w w' : World} (h : Below B w w') (hB : hi ≤ B) : Keep lo hi w w' := fun k _ h2 => h.block k (by omega)
theorem Keep.of_grown {lo hi : Nat} {w w' : World} {row : Option Nat} (h : w.grownBy w' row) (hs : hi ≤ w.heap.size) (hr : ∀ k, row = some k → k < lo ∨ hi ≤ k) : Keep lo hi w w' := fun k h1 h2 => h.block k (by omega) (fun e => by have := hr k e.symm; omega)
theorem Own.span {w w' : World} {base hi : Nat} {v : Value} {xs : List Int} (h : Own w base v xs) (hs : Keep base hi w w') (hh : w.heap.size ≤ hi) : Own w' base v xs := ⟨h.1, by
    obtain ⟨h1, h2 | ⟨g, c, cur, hv, hbg, hg, r⟩⟩ := h.2
    · exact ⟨h1, .inl h2⟩
    · exact ⟨h1, .inr ⟨g, c, cur, hv, hbg, (hs g hbg (Nat.lt_of_lt_of_le (Array.getElem?_eq_some_iff.1 hg).1 hh)).trans hg, r⟩⟩⟩
theorem Ans.spanK {w w' : World} {base hi : Nat} {v : Value} {us : List Value} {xss : List (List Int)} (h : Ans w base v us xss) (hs : Keep base hi w w') (hh : w.heap.size ≤ hi) : Ans w' base v us xss := h.span (fun k h1 h2 => hs k h1 (by omega))

/-- What marking lists leaves alone. -/
def Touch (us : List Value) (w w' : World) : Prop := w'.os = w.os ∧ w'.tape = w.tape ∧ w'.output = w.output ∧ w.heap.size ≤ w'.heap.size ∧ ∀ k, k < w.heap.size → (∀ i, i < us.length → (us.getD i (.slice none 0 0)).ownBlock ≠ some k) → w'.heap[k]? = w.heap[k]?
theorem Touch.refl (us : List Value) (w : World) : Touch us w w := ⟨rfl, rfl, rfl, Nat.le_refl _, fun _ _ _ => rfl⟩
theorem Touch.step {us : List Value} {w w1 w2 : World} {i : Nat} (h : Touch us w w1) (hi : i < us.length) (hg : w1.grownBy w2 (us.getD i (.slice none 0 0)).ownBlock) : Touch us w w2 :=
  ⟨hg.os.trans h.1, hg.tape.trans h.2.1, hg.output.trans h.2.2.1, Nat.le_trans h.2.2.2.1 hg.size, fun k hk hn => (hg.block k (by have := h.2.2.2.1; omega) (fun e => hn i hi e.symm)).trans (h.2.2.2.2 k hk hn)⟩
theorem Touch.below {us : List Value} {w w' : World} {B : Nat} (h : Touch us w w') (hB : B ≤ w.heap.size) (hl : ∀ i, i < us.length → ∀ k, (us.getD i (.slice none 0 0)).ownBlock = some k → B ≤ k) : Below B w w' :=
  ⟨h.1, h.2.1, h.2.2.1, h.2.2.2.1, fun k hk => h.2.2.2.2 k (by omega) (fun i hi e => by have := hl i hi k e; omega)⟩
theorem Touch.keep {us : List Value} {w w' : World} {lo hi : Nat} (h : Touch us w w') (hh : hi ≤ w.heap.size) (hl : ∀ i, i < us.length → ∀ k, (us.getD i (.slice none 0 0)).ownBlock = some k → k < lo ∨ hi ≤ k) : Keep lo hi w w' :=
  fun k h1 h2 => h.2.2.2.2 k (by omega) (fun i hi e => by have := hl i hi k e; omega)
theorem Touch.own {us : List Value} {w w' : World} {base : Nat} {v : Value} {xs : List Int} (h : Touch us w w') (ho : Own w base v xs) (hne : ∀ i, i < us.length → ∀ k, (us.getD i (.slice none 0 0)).ownBlock = some k → v.ownBlock ≠ some k) : Own w' base v xs := by
  refine ⟨ho.1, ?_⟩
  obtain ⟨h1, h2 | ⟨g, c, cur, hv, hbg, hg, r⟩⟩ := ho.2
  · exact ⟨h1, .inl h2⟩
  · refine ⟨h1, .inr ⟨g, c, cur, hv, hbg, (h.2.2.2.2 g (Array.getElem?_eq_some_iff.1 hg).1 (fun i hi e => ?_)).trans hg, r⟩⟩
    exact hne i hi g e (by rw [hv]; rfl)

theorem MP.kept {w w' : World} {base : Nat} {a : Value} {us : List Value} {xss : List (List Int)} {q : Int} {k b2 : Nat} {v : Value} {ys : List Int} (h : MP w base a us xss q k) (hv : Own w b2 v ys) (hg : w.grownBy w' v.ownBlock) (hne : ∀ i, i < us.length → ∀ g, (us.getD i (.slice none 0 0)).ownBlock = some g → v.ownBlock ≠ some g) : MP w' base a us xss q k where
  row := World.ownsRow.kept h.row hg (row_ne' hv h.row)
  len := h.len
  each := fun i hi => own_kept (h.each i hi) hg (by
    cases e : (us.getD i (.slice none 0 0)).ownBlock with
    | none => exact .inl rfl
    | some g => exact .inr fun e2 => hne i hi g e e2.symm)
  apart := h.apart
theorem flat_each {xss : List (List Int)} {n i : Nat} (h : xss.flatten.length ≤ n) : (xss.getD i []).length ≤ n := by
  by_cases hi : i < xss.length
  · have h1 := sizeTo_succ (xss := xss) (k := i) hi
    have h2 := sizeTo_le xss (i + 1)
    omega
  · rw [List.getD_eq_getElem?_getD, List.getElem?_eq_none (by omega)]
    simp
end Go.Proofs.Ytipcdioolafkpaa.marked
