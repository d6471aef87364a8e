/- The reader of frames in memory: what it holds, and what keeps it. -/
import Derived.Test.YtipcdioolafkpaaTake
import Derived.Test.YtipcdioolafkpaaFrames
namespace Go.Proofs.Ytipcdioolafkpaa.reader
open Go.ChangeShapes Go.WideShapes Go.ChangeAt Go.RowKit
open Go.Proofs.Ytipcdioolafkpaa.bytes Go.Proofs.Ytipcdioolafkpaa.pile Go.Proofs.Ytipcdioolafkpaa.get Go.Proofs.Ytipcdioolafkpaa.dec Go.Proofs.Ytipcdioolafkpaa.take
open Go.Proofs.Ytipcdioolafkpaa.put Go.Proofs.Ytipcdioolafkpaa.crcs Go.Proofs.Ytipcdioolafkpaa.join Go.Proofs.Ytipcdioolafkpaa.frames
set_option linter.unusedVariables false

/-- Values that own, one by one, these lists of bytes, no two of them one row. -/
def Pile (w : World) (base : Nat) (us : List Value) (xss : List (List Int)) : Prop :=
  us.length = xss.length ∧ (∀ i, i < us.length → Own w base (us.getD i (.slice none 0 0)) (xss.getD i [])) ∧
    ∀ i j, i < us.length → j < us.length → i ≠ j → ∀ k, (us.getD i (.slice none 0 0)).ownBlock = some k → (us.getD j (.slice none 0 0)).ownBlock ≠ some k

theorem Pile.nil (w : World) (base : Nat) : Pile w base [] [] := ⟨rfl, fun i h => by simp at h, fun i j h => by simp at h⟩
theorem Pile.below {w w' : World} {base B : Nat} {us : List Value} {xss : List (List Int)} (h : Pile w base us xss) (hb : Below B w w') (hB : w.heap.size ≤ B) : Pile w' base us xss :=
  ⟨h.1, fun i hi => (h.2.1 i hi).below hb hB, h.2.2⟩
theorem Pile.texts {w : World} {base : Nat} {us : List Value} {xss : List (List Int)} (h : Pile w base us xss) : Texts w us xss := ⟨h.1, fun i hi => Own.rdA (h.2.1 i hi)⟩
theorem Pile.mono {w : World} {base base' : Nat} {us : List Value} {xss : List (List Int)} (h : Pile w base us xss) (hb : base' ≤ base) : Pile w base' us xss := ⟨h.1, fun i hi => (h.2.1 i hi).mono hb, h.2.2⟩

/-- Of what is owned the block bears the element's type. -/
theorem own_typed {w : World} {base e : Nat} {v : Value} {n : Nat} {xs : List Value} (h : w.ownsRow base e 1 v n xs) {g : Nat} (hg : v.ownBlock = some g) : ∃ cur, w.heap[g]? = some (.cells cur e (0, 0)) := by
  obtain ⟨_, ⟨rfl, _⟩ | ⟨g', cap, cur, rfl, _, hh, _⟩⟩ := h
  · simp [Value.ownBlock] at hg
  · simp only [Value.ownBlock, Option.some.injEq] at hg
    subst hg
    exact ⟨cur, hh⟩
theorem own_other {w : World} {base e e' : Nat} {v : Value} {n : Nat} {xs : List Value} (h : w.ownsRow base e 1 v n xs) {d : Nat} {cur : Array Value} (hd : w.heap[d]? = some (.cells cur e' (0, 0))) (hne : e ≠ e') : v.ownBlock ≠ some d := by
  intro hg
  obtain ⟨c, hc⟩ := own_typed h hg
  rw [hd] at hc
  simp only [Option.some.injEq, Obj.cells.injEq] at hc
  exact hne hc.2.1.symm

theorem pile_snoc {w : World} {base : Nat} {us : List Value} {xss : List (List Int)} {v : Value} {ys : List Int} (h : Pile w base us xss) (hv : Own w base v ys) (hne : ∀ i, i < us.length → ∀ k, (us.getD i (.slice none 0 0)).ownBlock = some k → v.ownBlock ≠ some k) :
    Pile w base (us ++ [v]) (xss ++ [ys]) := by
  obtain ⟨h1, h2, h3⟩ := h
  have hat : ∀ i, i < us.length → (us ++ [v]).getD i (.slice none 0 0) = us.getD i (.slice none 0 0) := fun i hi => by simp [List.getD_eq_getElem?_getD, List.getElem?_append_left hi]
  have hatx : ∀ i, i < us.length → (xss ++ [ys]).getD i [] = xss.getD i [] := fun i hi => by simp [List.getD_eq_getElem?_getD, List.getElem?_append_left (h1 ▸ hi)]
  have hl : (us ++ [v]).getD us.length (.slice none 0 0) = v := by simp [List.getD_eq_getElem?_getD]
  have hlx : (xss ++ [ys]).getD us.length [] = ys := by rw [h1]; simp [List.getD_eq_getElem?_getD]
  refine ⟨by simp [h1], fun i hi => ?_, fun i j hi hj hij k => ?_⟩
  · by_cases e : i < us.length
    · rw [hat i e, hatx i e]; exact h2 i e
    · have : i = us.length := by simp at hi; omega
      subst this
      rw [hl, hlx]; exact hv
  · by_cases ei : i < us.length <;> by_cases ej : j < us.length
    · rw [hat i ei, hat j ej]; exact h3 i j ei ej hij k
    · have : j = us.length := by simp at hj; omega
      subst this
      rw [hat i ei, hl]
      exact hne i ei k
    · have : i = us.length := by simp at hi; omega
      subst this
      rw [hat j ej, hl]
      intro hk hk2
      exact hne j ej k hk2 hk
    · simp at hi hj; omega

theorem own_kept {w w' : World} {base : Nat} {v : Value} {row : Option Nat} {xs : List Int} (h : Own w base v xs) (hg : w.grownBy w' row) (hne : v.ownBlock = none ∨ v.ownBlock ≠ row) : Own w' base v xs :=
  ⟨h.1, World.ownsRow.kept h.2 hg hne⟩

/-- A store into a block of another type. -/
theorem own_setCell {w : World} {base : Nat} {v : Value} {xs : List Int} (h : Own w base v xs) {a : Addr} (ha : v.ownBlock ≠ some a.block) (u : Value) : Own (w.setCell a u) base v xs :=
  ⟨h.1, ownsRow_setCell_other h.2 ha u⟩

theorem rd_setCell {w : World} {ao : Option Addr} {n cap : Nat} {xs : List Int} (h : RdA w (.slice ao n cap) xs) {a : Addr} (ha : 0 < xs.length → ∀ x, ao = some x → x.block ≠ a.block) (u : Value) : RdA (w.setCell a u) (.slice ao n cap) xs := by
  obtain ⟨⟨ao', cap', e, h1, h2, h3, h4⟩, hnil⟩ := h
  simp only [Value.slice.injEq] at e
  obtain ⟨rfl, rfl, rfl⟩ := e
  refine ⟨⟨ao, cap, rfl, h1, h2, h3, fun hp => ?_⟩, hnil⟩
  obtain ⟨b, off, rfl, hc⟩ := h4 hp
  refine ⟨b, off, rfl, fun i hi => ?_⟩
  rw [World.cell?_of_block (Below.heap_setCell w a u b (ha hp _ rfl))]
  exact hc i hi

/-- The reader at block d: its bytes and its place in them, the payloads that it has gathered. -/
structure RS (w : World) (base d : Nat) (ao : Option Addr) (cap : Nat) (xs : List Int) (at_ : Nat) (pv : Value) (us : List Value) (xss : List (List Int)) : Prop where
  blk : w.heap[d]? = some (.cells #[.slice ao xs.length cap, .int .i64 at_, pv] 68 (0, 0))
  data : RdA w (.slice ao xs.length cap) xs
  far : 0 < xs.length → ∀ x, ao = some x → x.block ≠ d ∧ pv.ownBlock ≠ some x.block
  pay : w.ownsRow base 22 1 pv us.length us
  each : Pile w base us xss
  le : at_ ≤ xs.length
  len : xs.length ≤ 65536
  low : base ≤ d

theorem RS.lt {w : World} {base d : Nat} {ao : Option Addr} {cap : Nat} {xs : List Int} {at_ : Nat} {pv : Value} {us : List Value} {xss : List (List Int)} (h : RS w base d ao cap xs at_ pv us xss) : d < w.heap.size :=
  (Array.getElem?_eq_some_iff.1 h.blk).1
theorem RS.c0 {w : World} {base d : Nat} {ao : Option Addr} {cap : Nat} {xs : List Int} {at_ : Nat} {pv : Value} {us : List Value} {xss : List (List Int)} (h : RS w base d ao cap xs at_ pv us xss) : w.cell? ⟨d, 0, none⟩ = some (.slice ao xs.length cap) := by simp [World.cell?, h.blk]
theorem RS.c1 {w : World} {base d : Nat} {ao : Option Addr} {cap : Nat} {xs : List Int} {at_ : Nat} {pv : Value} {us : List Value} {xss : List (List Int)} (h : RS w base d ao cap xs at_ pv us xss) : w.cell? ⟨d, 1, none⟩ = some (.int .i64 at_) := by simp [World.cell?, h.blk]
theorem RS.c2 {w : World} {base d : Nat} {ao : Option Addr} {cap : Nat} {xs : List Int} {at_ : Nat} {pv : Value} {us : List Value} {xss : List (List Int)} (h : RS w base d ao cap xs at_ pv us xss) : w.cell? ⟨d, 2, none⟩ = some pv := by simp [World.cell?, h.blk]
theorem RS.fz {w : World} {base d : Nat} {ao : Option Addr} {cap : Nat} {xs : List Int} {at_ : Nat} {pv : Value} {us : List Value} {xss : List (List Int)} (h : RS w base d ao cap xs at_ pv us xss) (i : Nat) : w.frozen? ⟨d, i, none⟩ = false := by simp [World.frozen?, h.blk]

theorem RS.below {w w' : World} {base d : Nat} {ao : Option Addr} {cap : Nat} {xs : List Int} {at_ : Nat} {pv : Value} {us : List Value} {xss : List (List Int)} (h : RS w base d ao cap xs at_ pv us xss) (hb : Below w.heap.size w w') : RS w' base d ao cap xs at_ pv us xss where
  blk := (hb.block d h.lt).trans h.blk
  data := h.data.below hb (Nat.le_refl _)
  far := h.far
  pay := by
    obtain ⟨h1, h2 | ⟨g, c, cur, rfl, hbg, hg, r⟩⟩ := h.pay
    · exact ⟨h1, .inl h2⟩
    · exact ⟨h1, .inr ⟨g, c, cur, rfl, hbg, (hb.block g (Array.getElem?_eq_some_iff.1 hg).1).trans hg, r⟩⟩
  each := h.each.below hb (Nat.le_refl _)
  le := h.le
  len := h.len
  low := h.low
theorem below_same (w : World) (n : Nat) : Below w.heap.size w (w.drewN n) := ⟨rfl, rfl, rfl, Nat.le_refl _, fun _ _ => rfl⟩

theorem RS.setAt {w : World} {base d : Nat} {ao : Option Addr} {cap : Nat} {xs : List Int} {at_ : Nat} {pv : Value} {us : List Value} {xss : List (List Int)} (h : RS w base d ao cap xs at_ pv us xss) (n : Nat) (hn : n ≤ xs.length) : RS (w.setCell ⟨d, 1, none⟩ (.int .i64 n)) base d ao cap xs n pv us xss where
  blk := by
    have := heap_setCell_same w d 1 _ 68 (.int .i64 n) h.blk
    simpa using this
  data := rd_setCell h.data (fun hp x hx => (h.far hp x hx).1) _
  far := h.far
  pay := ownsRow_setCell_other h.pay (own_other h.pay h.blk (by decide)) _
  each := ⟨h.each.1, fun i hi => own_setCell (h.each.2.1 i hi) (own_other (h.each.2.1 i hi).2 h.blk (by decide)) _, h.each.2.2⟩
  le := hn
  len := h.len
  low := h.low
end Go.Proofs.Ytipcdioolafkpaa.reader
