/- Rows of records that are marked, and held against their marks. -/
import Derived.Test.YtipcdioolafkpaaRecRows
namespace Go.Proofs.Ytipcdioolafkpaa.recmarks
open Go.ChangeShapes Go.WideShapes Go.ChangeAt Go.RowKit
open Go.Proofs.Ytipcdioolafkpaa.bytes Go.Proofs.Ytipcdioolafkpaa.pile Go.Proofs.Ytipcdioolafkpaa.put Go.Proofs.Ytipcdioolafkpaa.crcs Go.Proofs.Ytipcdioolafkpaa.join Go.Proofs.Ytipcdioolafkpaa.frames Go.Proofs.Ytipcdioolafkpaa.votes Go.Proofs.Ytipcdioolafkpaa.pays Go.Proofs.Ytipcdioolafkpaa.rechelp Go.Proofs.Ytipcdioolafkpaa.recrows
set_option linter.unusedVariables false

/-- Only the blocks of these values were written. -/
structure TouchV (us : List Value) (w w' : World) : Prop where
  os : w'.os = w.os
  tape : w'.tape = w.tape
  output : w'.output = w.output
  size : w.heap.size ≤ w'.heap.size
  block : ∀ k, k < w.heap.size → (∀ u ∈ us, u.ownBlock ≠ some k) → w'.heap[k]? = w.heap[k]?
theorem TouchV.refl (us : List Value) (w : World) : TouchV us w w := ⟨rfl, rfl, rfl, Nat.le_refl _, fun _ _ _ => rfl⟩
theorem TouchV.grow {us : List Value} {w w1 w2 : World} {u : Value} (h : TouchV us w w1) (hu : u ∈ us) (hg : w1.grownBy w2 u.ownBlock) : TouchV us w w2 :=
  ⟨hg.os.trans h.os, hg.tape.trans h.tape, hg.output.trans h.output, Nat.le_trans h.size hg.size, fun k hk hn => (hg.block k (by have := h.size; omega) (fun e => hn u hu e.symm)).trans (h.block k hk hn)⟩
theorem TouchV.set {us : List Value} {w w1 : World} {u : Value} (h : TouchV us w w1) (hu : u ∈ us) {a : Addr} (ha : u.ownBlock = some a.block) (x : Value) : TouchV us w (w1.setCell a x) :=
  ⟨h.os, h.tape, h.output, by simpa using h.size, fun k hk hn => by
    rw [Below.heap_setCell _ _ _ _ (fun e => hn u hu (by rw [ha, e]))]
    exact h.block k hk hn⟩
theorem TouchV.below {us : List Value} {w w' : World} {B : Nat} (h : TouchV us w w') (hB : B ≤ w.heap.size) (hl : ∀ u ∈ us, ∀ k, u.ownBlock = some k → B ≤ k) : Below B w w' :=
  ⟨h.os, h.tape, h.output, h.size, fun k hk => h.block k (by omega) (fun u hu e => by have := hl u hu k e; omega)⟩
theorem TouchV.own {us : List Value} {w w' : World} {base : Nat} {v : Value} {xs : List Int} (h : TouchV us w w') (ho : Own w base v xs) (hne : ∀ u ∈ us, ∀ k, u.ownBlock = some k → v.ownBlock ≠ some k) : Own w' base v xs := by
  refine ⟨ho.1, ?_⟩
  obtain ⟨h1, h2 | ⟨g, cap, cur, rfl, hbg, hg, r⟩⟩ := ho.2
  · exact ⟨h1, .inl h2⟩
  · exact ⟨h1, .inr ⟨g, cap, cur, rfl, hbg, (h.block g (Array.getElem?_eq_some_iff.1 hg).1 (fun u hu e => hne u hu g e rfl)).trans hg, r⟩⟩

/-- Where the marks of record j begin. -/
def mAt (q : Int) (rl : List Rec3) (j : Nat) : Int := q + (2 * j : Nat) + (sumTo rl j : Nat)
theorem mAt_succ {q : Int} {rl : List Rec3} {j : Nat} (h : j < rl.length) : mAt q rl (j + 1) = mAt q rl j + 1 + 1 + (rl.getD j zRec).d.length := by
  unfold mAt
  rw [sumTo_succ h]
  omega
theorem mAt_bd {q : Int} {rl : List Rec3} {j : Nat} (h0 : 0 ≤ q) (h : j < rl.length) (hq : mAt q rl rl.length ≤ 4611686018427387904) : 0 ≤ mAt q rl j ∧ mAt q rl j + 1 + 1 + (rl.getD j zRec).d.length ≤ 4611686018427387904 := by
  rw [← mAt_succ h]
  have h1 := sumTo_le rl (j + 1)
  unfold mAt at hq ⊢
  omega
/-- The records as they are when the first k of them are marked. -/
def mkR (q : Int) (rl : List Rec3) (k j : Nat) : Rec3 := if j < k then ⟨mAt q rl j, mAt q rl j + 1, marks (mAt q rl j + 1 + 1) (rl.getD j zRec).d.length⟩ else rl.getD j zRec
def mkL (q : Int) (rl : List Rec3) (k : Nat) : List Rec3 := (List.range rl.length).map (mkR q rl k)
theorem mkL_len (q : Int) (rl : List Rec3) (k : Nat) : (mkL q rl k).length = rl.length := by simp [mkL]
theorem mkL_get {q : Int} {rl : List Rec3} {k j : Nat} (h : j < rl.length) : (mkL q rl k).getD j zRec = mkR q rl k j := by simp [mkL, List.getD_eq_getElem?_getD, h]
theorem mkL_zero (q : Int) (rl : List Rec3) : mkL q rl 0 = rl := by
  apply List.ext_getElem?
  intro j
  by_cases h : j < rl.length
  · simp [mkL, mkR, h, List.getD_eq_getElem?_getD]
  · simp [mkL, h]
theorem mkR_out {q : Int} {rl : List Rec3} {k j : Nat} (h : j ≠ k) : mkR q rl (k + 1) j = mkR q rl k j := by
  unfold mkR
  by_cases e : j < k
  · rw [if_pos (by omega), if_pos e]
  · rw [if_neg (by omega), if_neg e]
theorem mkR_now (q : Int) (rl : List Rec3) (k : Nat) : mkR q rl k k = rl.getD k zRec := by rw [mkR, if_neg (by omega)]
theorem mkR_done (q : Int) (rl : List Rec3) (k : Nat) : mkR q rl (k + 1) k = ⟨mAt q rl k, mAt q rl k + 1, marks (mAt q rl k + 1 + 1) (rl.getD k zRec).d.length⟩ := by rw [mkR, if_pos (by omega)]

theorem get2_other {cur : Array Value} {p m : Nat} {a b : Value} (h : m ≠ p ∧ m ≠ p + 1) : ((cur.setIfInBounds p a).setIfInBounds (p + 1) b)[m]? = cur[m]? := by
  rw [Array.getElem?_setIfInBounds_ne (by omega), Array.getElem?_setIfInBounds_ne (by omega)]

/-- One record more is marked. -/
theorem marked {wr w2 : World} {base g off : Nat} {cap : Nat} {rl : List Rec3} {us : List Value} {q : Int} {k : Nat} {cur : Array Value}
    (h : OwnRecs wr base (.slice (some ⟨g, off, none⟩) rl.length cap) (mkL q rl k) us) (hk : k < rl.length) (hg : wr.heap[g]? = some (.cells cur 92 (0, 0))) (hb : base ≤ g)
    (hc : ∀ j, j < rl.length → cur[off + j * 3]? = some (.int .i64 (mkR q rl k j).t) ∧ cur[off + j * 3 + 1]? = some (.int .i64 (mkR q rl k j).i) ∧ cur[off + j * 3 + 2]? = some (us.getD j (.slice none 0 0)))
    (hO : Own w2 base (us.getD k (.slice none 0 0)) (marks (mAt q rl k + 1 + 1) (rl.getD k zRec).d.length))
    (hgr : ((wr.setCell ⟨g, off + k * 3, none⟩ (.int .i64 (mAt q rl k))).setCell ⟨g, off + k * 3 + 1, none⟩ (.int .i64 (mAt q rl k + 1))).grownBy w2 (us.getD k (.slice none 0 0)).ownBlock) :
    OwnRecs w2 base (.slice (some ⟨g, off, none⟩) rl.length cap) (mkL q rl (k + 1)) us := by
  have e0 := heap_setCell_same wr g (off + k * 3) cur 92 (.int .i64 (mAt q rl k)) hg
  have e1 := heap_setCell_same _ g (off + k * 3 + 1) _ 92 (.int .i64 (mAt q rl k + 1)) e0
  have hne : (us.getD k (.slice none 0 0)).ownBlock ≠ some g := by
    have := h.each k (by rw [mkL_len]; exact hk)
    exact own_other this.2 hg (by decide)
  have e2 : w2.heap[g]? = some (.cells ((cur.setIfInBounds (off + k * 3) (.int .i64 (mAt q rl k))).setIfInBounds (off + k * 3 + 1) (.int .i64 (mAt q rl k + 1))) 92 (0, 0)) :=
    (hgr.block g (by have := (Array.getElem?_eq_some_iff.1 hg).1; simpa using this) (fun e => hne e.symm)).trans e1
  refine ⟨by rw [mkL_len]; have := h.len; rwa [mkL_len] at this, ⟨some ⟨g, off, none⟩, cap, by rw [mkL_len], ?_, ?_, fun _ => ⟨g, off, _, rfl, hb, e2, fun j hj => ?_⟩⟩, fun j hj => ?_, fun i j hi hj => ?_⟩
  · obtain ⟨ao, cap', e, h1, h2, _⟩ := h.row
    simp only [Value.slice.injEq] at e
    rw [mkL_len] at h1 ⊢
    omega
  · obtain ⟨ao, cap', e, h1, h2, _⟩ := h.row
    simp only [Value.slice.injEq] at e
    omega
  · rw [mkL_len] at hj
    rw [mkL_get hj]
    obtain ⟨c0, c1, c2⟩ := hc j hj
    have hsz := (Array.getElem?_eq_some_iff.1 (hc k hk).2.2).1
    by_cases e : j = k
    · subst e
      rw [mkR_done]
      refine ⟨?_, ?_, ?_⟩
      · rw [Array.getElem?_setIfInBounds_ne (by omega), Array.getElem?_setIfInBounds_self_of_lt (by omega)]
      · rw [Array.getElem?_setIfInBounds_self_of_lt (by simp; omega)]
      · rw [get2_other (by omega)]; exact c2
    · rw [mkR_out e, get2_other (by omega), get2_other (by omega), get2_other (by omega)]
      exact ⟨c0, c1, c2⟩
  · rw [mkL_len] at hj
    rw [mkL_get hj]
    by_cases e : j = k
    · subst e
      rw [mkR_done]
      exact hO
    · rw [mkR_out e]
      have ho := h.each j (by rw [mkL_len]; exact hj)
      rw [mkL_get hj] at ho
      have hnj : (us.getD j (.slice none 0 0)).ownBlock ≠ some g := own_other ho.2 hg (by decide)
      have h2 := own_setCell (own_setCell ho (a := ⟨g, off + k * 3, none⟩) hnj (.int .i64 (mAt q rl k))) (a := ⟨g, off + k * 3 + 1, none⟩) hnj (.int .i64 (mAt q rl k + 1))
      refine ⟨h2.1, World.ownsRow.kept h2.2 hgr ?_⟩
      cases hv : (us.getD j (.slice none 0 0)).ownBlock with
      | none => exact .inl rfl
      | some b =>
        refine .inr fun e' => ?_
        exact h.apart j k (by rw [mkL_len]; exact hj) (by rw [mkL_len]; exact hk) e b hv e'.symm
  · rw [mkL_len] at hi hj
    exact h.apart i j (by rw [mkL_len]; exact hi) (by rw [mkL_len]; exact hj)

end Go.Proofs.Ytipcdioolafkpaa.recmarks
