/- Contract of the specification's own Feed. -/
import Derived.Test.YtipcdioolafkpaaSpecs
import Derived.Test.YtipcdioolafkpaaFeeds
import Derived.Test.YtipcdioolafkpaaSizes
namespace Go.Proofs.Ytipcdioolafkpaa.specfeed
open Go.ChangeShapes Go.WideShapes Go.ChangeAt Go.RowKit
open Go.Proofs.Ytipcdioolafkpaa.bytes Go.Proofs.Ytipcdioolafkpaa.pile Go.Proofs.Ytipcdioolafkpaa.get Go.Proofs.Ytipcdioolafkpaa.dec Go.Proofs.Ytipcdioolafkpaa.take Go.Proofs.Ytipcdioolafkpaa.reader Go.Proofs.Ytipcdioolafkpaa.one Go.Proofs.Ytipcdioolafkpaa.many Go.Proofs.Ytipcdioolafkpaa.lists Go.Proofs.Ytipcdioolafkpaa.specs Go.Proofs.Ytipcdioolafkpaa.feeds Go.Proofs.Ytipcdioolafkpaa.sizes
set_option linter.unusedVariables false

theorem cutV_eq (ao : Option Addr) (cap a n : Nat) : cutV ao cap a n = .slice (if cap = a then ao else ao.map fun x => x.add a) n (cap - a) := by
  unfold cutV
  split
  · rename_i h
    rw [h, Nat.sub_self]
  · rfl

theorem allF_place : ∀ (f : Nat) (l : List Int), (allF f l).2.1 ≤ l.length
  | 0, l => by simp [allF]
  | f + 1, l => by
    by_cases h : (frameAt l).1 = -1
    · rw [allF_more h]
      have h2 := frameAt_size h
      have h3 := allF_place f (l.drop (frameAt l).2.2)
      simp only [List.length_drop] at h3 ⊢
      omega
    · rw [allF_end h]; simp

/-- 'append(out, more...)': out and more rows of slices of the call's own. -/
theorem wpList_append_rows {P : Program} (w : World) {ops : Array Oper} {rest : List Oper} {o : Oper} {a : Act} {Q : Exit → Act → World → Prop} (hgd : o.guard = none) (s x : Operand) (t : TypeId)
    (ho : o.op = .call { callee := .builtin .append, args := #[s, x], argTypes := #[t, t] }) (ht : P.underlying t = some (.slice 22))
    (hi : (P.info? 22).map (fun i => (i.zero, i.size, i.bytes)) = some (some (.slice none 0 0), 1, 24))
    (base : Nat) (v : Value) (us : List Value) (hs : a.eval s = v) (hown : w.ownsRow base 22 1 v us.length us) (b2 : Nat) (u : Value) (vs : List Value) (hx : a.eval x = u) (hr : w.ownsRow b2 22 1 u vs.length vs) (h1 : ∀ y ∈ vs, y.oneCell' = true)
    (hlen : us.length + vs.length ≤ 1099511627776) (hbase : base ≤ w.heap.size)
    (h : ∀ v' w', w'.ownsRow base 22 1 v' (us ++ vs).length (us ++ vs) → w.grownBy w' v.ownBlock → wpList P ops Q rest (a.put o.dst v') w') : wpList P ops Q (o :: rest) a w := by
  obtain ⟨i0, hi1, hz0, hz1, hz2⟩ := info_parts hi
  have hr' := hr
  obtain ⟨hl, ⟨rfl, h2⟩ | ⟨g, cap, cur, rfl, hb, hg, hnc, hcm, hcs, htake⟩⟩ := hr
  · have hvs : vs = [] := List.length_eq_zero_iff.1 h2
    subst hvs
    refine wpList_append_own_none hgd s x t ho base 22 i0 1 ht hi1 v us.length _ hs hown hx ?_
    exact h v w (by simpa using hown) (World.grownBy.refl _ _)
  · refine wpList_append_own w hgd s x t ho base 22 i0 (.slice none 0 0) 1 24 ht hi1 hz0 hz1 hz2 rfl (by decide) v us.length _ hs hown ⟨g, 0, none⟩ vs.length cap vs hx (by simp) ?_ h1 (by unfold maxLen; omega) (by omega) hbase ?_
    · intro j y hy
      have hj : j < vs.length := (List.getElem?_eq_some_iff.1 hy).1
      rw [add_at, Nat.zero_add, World.ownsRow.cellAt hr' j (by omega)]
      exact hy
    · intro v' w' hown' hgrow _
      refine h v' w' ?_ hgrow
      rw [List.length_append]
      exact hown'

theorem pile_one {w : World} {base : Nat} {us : List Value} {xss : List (List Int)} (h : Pile w base us xss) : ∀ y ∈ us, y.oneCell' = true := by
  intro y hy
  obtain ⟨i, hi, rfl⟩ := List.getElem_of_mem hy
  have := (h.2.1 i hi).rd
  obtain ⟨ao, c, e, _⟩ := this
  have e2 : us.getD i (.slice none 0 0) = us[i] := by simp [List.getD_eq_getElem?_getD, hi]
  rw [e2] at e
  rw [e]
  rfl

theorem pile_app {w : World} {base K : Nat} {us vs : List Value} {xss yss : List (List Int)} (h : Pile w base us xss) (g : Pile w K vs yss) (hK : base ≤ K) (hus : ∀ i, i < us.length → ∀ k, (us.getD i (.slice none 0 0)).ownBlock = some k → k < K) : Pile w base (us ++ vs) (xss ++ yss) := by
  have hl : ∀ i, i < us.length → (us ++ vs).getD i (.slice none 0 0) = us.getD i (.slice none 0 0) := fun i hi => by simp [List.getD_eq_getElem?_getD, List.getElem?_append_left hi]
  have hr : ∀ i, us.length ≤ i → (us ++ vs).getD i (.slice none 0 0) = vs.getD (i - us.length) (.slice none 0 0) := fun i hi => by simp [List.getD_eq_getElem?_getD, List.getElem?_append_right hi]
  have hlx : ∀ i, i < us.length → (xss ++ yss).getD i [] = xss.getD i [] := fun i hi => by simp [List.getD_eq_getElem?_getD, List.getElem?_append_left (h.1 ▸ hi)]
  have hrx : ∀ i, us.length ≤ i → (xss ++ yss).getD i [] = yss.getD (i - us.length) [] := fun i hi => by simp [List.getD_eq_getElem?_getD, List.getElem?_append_right (h.1 ▸ hi), h.1]
  refine ⟨by rw [List.length_append, List.length_append, h.1, g.1], fun i hi => ?_, fun i j hi hj hij k hk hk2 => ?_⟩
  · rw [List.length_append] at hi
    by_cases e : i < us.length
    · rw [hl i e, hlx i e]; exact h.2.1 i e
    · rw [hr i (by omega), hrx i (by omega)]; exact (g.2.1 _ (by omega)).mono hK
  · rw [List.length_append] at hi hj
    by_cases ei : i < us.length <;> by_cases ej : j < us.length
    · rw [hl i ei] at hk; rw [hl j ej] at hk2; exact h.2.2 i j ei ej hij k hk hk2
    · rw [hl i ei] at hk; rw [hr j (by omega)] at hk2
      have h1 := hus i ei k hk
      have h2 := ((g.2.1 (j - us.length) (by omega)).lt k hk2).1
      omega
    · rw [hr i (by omega)] at hk; rw [hl j ej] at hk2
      have h1 := hus j ej k hk2
      have h2 := ((g.2.1 (i - us.length) (by omega)).lt k hk).1
      omega
    · rw [hr i (by omega)] at hk; rw [hr j (by omega)] at hk2
      exact g.2.2 (i - us.length) (j - us.length) (by omega) (by omega) (by omega) k hk hk2

/-- What the specification's Feed leaves. -/
def SpecOf (w : World) (R : List (List Int) × List Int × Int) (v r : Value) (w' : World) : Prop := ∃ us, Ans w' w.heap.size v us R.1 ∧ Own w' w.heap.size r R.2.1 ∧ Below w.heap.size w w'

/-- The payloads so far and the bytes that are held, each in memory of its own. -/
structure FI (w0 wr : World) (v8 v9 : Value) (us : List Value) (ps : List (List Int)) (held : List Int) : Prop where
  ans : Ans wr w0.heap.size v8 us ps
  held : Own wr w0.heap.size v9 held
  apart : ∀ i, i < us.length → ∀ k, (us.getD i (.slice none 0 0)).ownBlock = some k → v9.ownBlock ≠ some k
  bel : Below w0.heap.size w0 wr

theorem own_lit (w : World) {base : Nat} (h : base ≤ w.heap.size) : Own (w.alloc (.cells #[] 5)) base (.slice (some ⟨w.heap.size, 0, none⟩) 0 0) [] := ⟨by simp, World.ownsRow_lit _ #[] 0 h (by simp [maxLen]) (by simp)⟩
theorem row_lit (w : World) {base : Nat} (h : base ≤ w.heap.size) : (w.alloc (.cells #[] 22)).ownsRow base 22 1 (.slice (some ⟨w.heap.size, 0, none⟩) 0 0) 0 [] := World.ownsRow_lit _ #[] 0 h (by simp [maxLen]) (by simp)

/-- It ends with a code: nothing, in memory of its own. -/
theorem ends_none {w wr : World} {c : Int} (K : Nat) (hb : Below (w.alloc (.cells #[] 22)).heap.size (w.alloc (.cells #[] 22)) wr) (hK : wr.heap.size = K) : SpecOf w ([], [], c) (.slice (some ⟨w.heap.size, 0, none⟩) 0 0) (.slice (some ⟨K, 0, none⟩) 0 0) (wr.alloc (.cells #[] 5)) := by
  subst hK
  have hs := hb.size
  have hs' : (w.alloc (.cells #[] 22)).heap.size = w.heap.size + 1 := by simp
  have b2 : Below (w.alloc (.cells #[] 22)).heap.size (w.alloc (.cells #[] 22)) (wr.alloc (.cells #[] 5)) := hb.alloc (by omega) _
  refine ⟨[], ⟨row_below (row_lit w (Nat.le_refl _)) b2 (Nat.le_refl _), Pile.nil _ _⟩, own_lit wr (by omega), ?_⟩
  exact ((Below.refl _ _).alloc (Nat.le_refl _) _).trans (b2.mono (by omega))

/-- One piece more is held. -/
theorem FI.more {w0 wr w2 : World} {v8 v9 : Value} {us : List Value} {ps : List (List Int)} {held : List Int} (h : FI w0 wr v8 v9 us ps held) (hg : wr.grownBy w2 v9.ownBlock) :
    Ans w2 w0.heap.size v8 us ps ∧ Below w0.heap.size w0 w2 := by
  refine ⟨⟨World.ownsRow.kept h.ans.row hg (row_ne' h.held h.ans.row), h.ans.pile.1, fun i hi => own_kept (h.ans.pile.2.1 i hi) hg ?_, h.ans.pile.2.2⟩, h.bel.grown hg (by have := h.bel.size; omega) (fun k hk => (h.held.lt k hk).1)⟩
  cases hv : (us.getD i (.slice none 0 0)).ownBlock with
  | none => exact .inl rfl
  | some k => exact .inr fun e => h.apart i hi k hv e.symm

/-- The payloads of a piece behind those that are there. -/
theorem Ans.app {w3 w4 : World} {B K : Nat} {v8 v8' vm : Value} {us usm : List Value} {ps more : List (List Int)} (h : Ans w3 B v8 us ps) (hm : Pile w3 K usm more) (hK : B ≤ K) (hus : ∀ i, i < us.length → ∀ k, (us.getD i (.slice none 0 0)).ownBlock = some k → k < K)
    (hown : w4.ownsRow B 22 1 v8' (us ++ usm).length (us ++ usm)) (hg : w3.grownBy w4 v8.ownBlock) : Ans w4 B v8' (us ++ usm) (ps ++ more) := by
  have h1 := pile_app h.pile hm hK hus
  exact ⟨hown, h1.1, fun i hi => own_kept (h1.2.1 i hi) hg (row_ne (h1.2.1 i hi) h.row), h1.2.2⟩

end Go.Proofs.Ytipcdioolafkpaa.specfeed
