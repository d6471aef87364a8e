/- Rows of records: what is read, what is owned; the laws' own helpers on them: how large, copied, equal. -/
import Derived.Test.YtipcdioolafkpaaRecHelp
import Derived.Deep.RegionHeldLaw
import Derived.Deep.RegionLaw
namespace Go.Proofs.Ytipcdioolafkpaa.recrows
open Go.ChangeShapes Go.WideShapes Go.ChangeAt Go.RowKit
open Go.Proofs.Ytipcdioolafkpaa.bytes Go.Proofs.Ytipcdioolafkpaa.pile Go.Proofs.Ytipcdioolafkpaa.put Go.Proofs.Ytipcdioolafkpaa.crcs Go.Proofs.Ytipcdioolafkpaa.join Go.Proofs.Ytipcdioolafkpaa.frames Go.Proofs.Ytipcdioolafkpaa.votes Go.Proofs.Ytipcdioolafkpaa.pays Go.Proofs.Ytipcdioolafkpaa.rechelp
set_option linter.unusedVariables false

/-- A record. -/
structure Rec3 where
  t : Int
  i : Int
  d : List Int
def zRec : Rec3 := ⟨0, 0, []⟩

/-- How many bytes the first k records have. -/
def sumTo (rl : List Rec3) (k : Nat) : Nat := ((rl.take k).map fun r => r.d.length).sum
theorem sumTo_succ {rl : List Rec3} {k : Nat} (h : k < rl.length) : sumTo rl (k + 1) = sumTo rl k + (rl.getD k zRec).d.length := by
  have e : rl.getD k zRec = rl[k] := by simp [List.getD_eq_getElem?_getD, h]
  unfold sumTo
  rw [List.take_succ_eq_append_getElem h, e, List.map_append, List.sum_append]
  rfl
theorem sumTo_le (rl : List Rec3) (k : Nat) : sumTo rl k ≤ sumTo rl rl.length := by
  unfold sumTo
  rw [List.take_length]
  have : rl = rl.take k ++ rl.drop k := (List.take_append_drop k rl).symm
  conv => rhs; rw [this, List.map_append, List.sum_append]
  omega
theorem each_le {rl : List Rec3} {k : Nat} (h : k < rl.length) : (rl.getD k zRec).d.length ≤ sumTo rl rl.length := by
  have h1 := sumTo_succ h
  have h2 := sumTo_le rl (k + 1)
  omega

/-- The slice value v reads, in world w, as these records, whose bytes are the values us. -/
structure RdRecs (w : World) (v : Value) (rl : List Rec3) (us : List Value) : Prop where
  len : us.length = rl.length
  row : ∃ ao cap, v = .slice ao rl.length cap ∧ rl.length ≤ cap ∧ cap ≤ maxLen ∧ (0 < rl.length → ∃ b off, ao = some ⟨b, off, none⟩ ∧ ∀ k, k < rl.length → w.cell? ⟨b, off + k * 3, none⟩ = some (.int .i64 (rl.getD k zRec).t) ∧ w.cell? ⟨b, off + k * 3 + 1, none⟩ = some (.int .i64 (rl.getD k zRec).i) ∧ w.cell? ⟨b, off + k * 3 + 2, none⟩ = some (us.getD k (.slice none 0 0)))
  each : ∀ k, k < rl.length → RdA w (us.getD k (.slice none 0 0)) (rl.getD k zRec).d
theorem RdRecs.below {w w' : World} {B : Nat} {v : Value} {rl : List Rec3} {us : List Value} (h : RdRecs w v rl us) (hb : Below B w w') (hB : w.heap.size ≤ B) : RdRecs w' v rl us where
  len := h.len
  row := by
    obtain ⟨ao, cap, rfl, h1, h2, h4⟩ := h.row
    refine ⟨ao, cap, rfl, h1, h2, fun hp => ?_⟩
    obtain ⟨b, off, rfl, hc⟩ := h4 hp
    exact ⟨b, off, rfl, fun k hk => ⟨cell_at hb (hc k hk).1 hB, cell_at hb (hc k hk).2.1 hB, cell_at hb (hc k hk).2.2 hB⟩⟩
  each := fun k hk => (h.each k hk).below hb hB

/-- The slice value v owns, in world w, these records and their bytes, in blocks from base on. -/
structure OwnRecs (w : World) (base : Nat) (v : Value) (rl : List Rec3) (us : List Value) : Prop where
  len : us.length = rl.length
  row : ∃ ao cap, v = .slice ao rl.length cap ∧ rl.length ≤ cap ∧ cap ≤ maxLen ∧ (0 < rl.length → ∃ g off cur, ao = some ⟨g, off, none⟩ ∧ base ≤ g ∧ w.heap[g]? = some (.cells cur 92 (0, 0)) ∧ ∀ k, k < rl.length → cur[off + k * 3]? = some (.int .i64 (rl.getD k zRec).t) ∧ cur[off + k * 3 + 1]? = some (.int .i64 (rl.getD k zRec).i) ∧ cur[off + k * 3 + 2]? = some (us.getD k (.slice none 0 0)))
  each : ∀ k, k < rl.length → Own w base (us.getD k (.slice none 0 0)) (rl.getD k zRec).d
  apart : ∀ j k, j < rl.length → k < rl.length → j ≠ k → ∀ b, (us.getD j (.slice none 0 0)).ownBlock = some b → (us.getD k (.slice none 0 0)).ownBlock ≠ some b
theorem OwnRecs.rd {w : World} {base : Nat} {v : Value} {rl : List Rec3} {us : List Value} (h : OwnRecs w base v rl us) : RdRecs w v rl us where
  len := h.len
  row := by
    obtain ⟨ao, cap, rfl, h1, h2, h4⟩ := h.row
    refine ⟨ao, cap, rfl, h1, h2, fun hp => ?_⟩
    obtain ⟨g, off, cur, rfl, _, hg, hc⟩ := h4 hp
    exact ⟨g, off, rfl, fun k hk => ⟨cell_of hg (hc k hk).1, cell_of hg (hc k hk).2.1, cell_of hg (hc k hk).2.2⟩⟩
  each := fun k hk => Own.rdA (h.each k hk)
theorem OwnRecs.below {w w' : World} {base B : Nat} {v : Value} {rl : List Rec3} {us : List Value} (h : OwnRecs w base v rl us) (hb : Below B w w') (hB : w.heap.size ≤ B) : OwnRecs w' base v rl us where
  len := h.len
  row := by
    obtain ⟨ao, cap, rfl, h1, h2, h4⟩ := h.row
    refine ⟨ao, cap, rfl, h1, h2, fun hp => ?_⟩
    obtain ⟨g, off, cur, rfl, hbg, hg, hc⟩ := h4 hp
    exact ⟨g, off, cur, rfl, hbg, kept hb hg hB, hc⟩
  each := fun k hk => (h.each k hk).below hb hB
  apart := h.apart
theorem OwnRecs.mono {w : World} {base base' : Nat} {v : Value} {rl : List Rec3} {us : List Value} (h : OwnRecs w base v rl us) (hb : base' ≤ base) : OwnRecs w base' v rl us where
  len := h.len
  row := by
    obtain ⟨ao, cap, rfl, h1, h2, h4⟩ := h.row
    refine ⟨ao, cap, rfl, h1, h2, fun hp => ?_⟩
    obtain ⟨g, off, cur, rfl, hbg, hg, hc⟩ := h4 hp
    exact ⟨g, off, cur, rfl, by omega, hg, hc⟩
  each := fun k hk => (h.each k hk).mono hb
  apart := h.apart

theorem get3_other {cur : Array Value} {p m : Nat} {a b c : Value} (h : m < p ∨ p + 2 < m) : (((cur.setIfInBounds p a).setIfInBounds (p + 1) b).setIfInBounds (p + 2) c)[m]? = cur[m]? := by
  rw [Array.getElem?_setIfInBounds_ne (by omega), Array.getElem?_setIfInBounds_ne (by omega), Array.getElem?_setIfInBounds_ne (by omega)]
theorem get3_0 {cur : Array Value} {p : Nat} {a b c : Value} (h : p + 2 < cur.size) : (((cur.setIfInBounds p a).setIfInBounds (p + 1) b).setIfInBounds (p + 2) c)[p]? = some a := by
  rw [Array.getElem?_setIfInBounds_ne (by omega), Array.getElem?_setIfInBounds_ne (by omega), Array.getElem?_setIfInBounds_self_of_lt (by omega)]
theorem get3_1 {cur : Array Value} {p : Nat} {a b c : Value} (h : p + 2 < cur.size) : (((cur.setIfInBounds p a).setIfInBounds (p + 1) b).setIfInBounds (p + 2) c)[p + 1]? = some b := by
  rw [Array.getElem?_setIfInBounds_ne (by omega), Array.getElem?_setIfInBounds_self_of_lt (by simp; omega)]
theorem get3_2 {cur : Array Value} {p : Nat} {a b c : Value} (h : p + 2 < cur.size) : (((cur.setIfInBounds p a).setIfInBounds (p + 1) b).setIfInBounds (p + 2) c)[p + 2]? = some c := by
  rw [Array.getElem?_setIfInBounds_self_of_lt (by simp; omega)]

/-- The first k of n records are laid, the others are zero. -/
structure RowK (cur : Array Value) (rl : List Rec3) (us : List Value) (n k : Nat) : Prop where
  size : cur.size = n * 3
  laid : ∀ j, j < k → cur[j * 3]? = some (.int .i64 (rl.getD j zRec).t) ∧ cur[j * 3 + 1]? = some (.int .i64 (rl.getD j zRec).i) ∧ cur[j * 3 + 2]? = some (us.getD j (.slice none 0 0))
  zero : ∀ j, k ≤ j → j < n → cur[j * 3]? = some (.int .i64 0) ∧ cur[j * 3 + 1]? = some (.int .i64 0) ∧ cur[j * 3 + 2]? = some (.slice none 0 0)
theorem RowK.step {cur : Array Value} {rl : List Rec3} {us : List Value} {n k : Nat} (h : RowK cur rl us n k) (hk : k < n) (hu : us.length = k) (u : Value) :
    RowK (((cur.setIfInBounds (k * 3) (.int .i64 (rl.getD k zRec).t)).setIfInBounds (k * 3 + 1) (.int .i64 (rl.getD k zRec).i)).setIfInBounds (k * 3 + 2) u) rl (us ++ [u]) n (k + 1) where
  size := by simpa using h.size
  laid := fun j hj => by
    have hs := h.size
    by_cases e : j = k
    · subst e
      have e1 : (us ++ [u]).getD j (.slice none 0 0) = u := by subst hu; simp [List.getD_eq_getElem?_getD]
      rw [e1]
      exact ⟨get3_0 (by omega), get3_1 (by omega), get3_2 (by omega)⟩
    · have e1 : (us ++ [u]).getD j (.slice none 0 0) = us.getD j (.slice none 0 0) := by simp [List.getD_eq_getElem?_getD, List.getElem?_append_left (show j < us.length by omega)]
      rw [e1, get3_other (by omega), get3_other (by omega), get3_other (by omega)]
      exact h.laid j (by omega)
  zero := fun j hj hn => by
    rw [get3_other (by omega), get3_other (by omega), get3_other (by omega)]
    exact h.zero j (by omega) hn

theorem info43 : (Try.prog.info? 92).map (fun i => (i.zero, i.size, i.bytes)) = some (some (.agg #[.int .i64 0, .int .i64 0, .slice none 0 0]), 3, 40) := by kernel_rfl
theorem made3 (n : Nat) {cur : Array Value} (hs : cur.size = n * 3) (h : cur.toList.take (n * 3) = (madeCells (Value.agg #[.int .i64 0, .int .i64 0, .slice none 0 0]).cells (n * 3)).toList) : RowK cur [] [] n 0 := by
  have hc : cur.toList = (madeCells (Value.agg #[.int .i64 0, .int .i64 0, .slice none 0 0]).cells (n * 3)).toList := by
    rw [← h, List.take_of_length_le (by simp [hs])]
  have hcur : cur = madeCells (Value.agg #[.int .i64 0, .int .i64 0, .slice none 0 0]).cells (n * 3) := Array.toList_inj.1 hc
  refine ⟨hs, fun j hj => by omega, fun j _ hj => ?_⟩
  rw [hcur]
  have m0 : j * 3 % 3 = 0 := by omega
  have m1 : (j * 3 + 1) % 3 = 1 := by omega
  have m2 : (j * 3 + 2) % 3 = 2 := by omega
  refine ⟨?_, ?_, ?_⟩
  · simp [madeCells, Value.cells, m0, show j * 3 < n * 3 by omega]
  · simp [madeCells, Value.cells, m1, show j * 3 + 1 < n * 3 by omega]
  · simp [madeCells, Value.cells, m2, show j * 3 + 2 < n * 3 by omega]

/-- What a copy of records holds when the first k are laid. -/
structure CopyK (w wr : World) (n : Nat) (rl : List Rec3) (us : List Value) (k : Nat) : Prop where
  len : us.length = k
  row : ∃ cur, wr.heap[w.heap.size]? = some (.cells cur 92 (0, 0)) ∧ RowK cur rl us n k
  each : ∀ j, j < k → Own wr w.heap.size (us.getD j (.slice none 0 0)) (rl.getD j zRec).d
  apart : ∀ i j, i < k → j < k → i ≠ j → ∀ b, (us.getD i (.slice none 0 0)).ownBlock = some b → (us.getD j (.slice none 0 0)).ownBlock ≠ some b
  bel : Below w.heap.size w wr

theorem CopyK.step {w wr w1 : World} {n : Nat} {rl : List Rec3} {us : List Value} {k : Nat} (h : CopyK w wr n rl us k) (hk : k < n) {u : Value} (hb : Below wr.heap.size wr w1) (hO : Own w1 wr.heap.size u (rl.getD k zRec).d) :
    CopyK w (((w1.setCell ⟨w.heap.size, k * 3, none⟩ (.int .i64 (rl.getD k zRec).t)).setCell ⟨w.heap.size, k * 3 + 1, none⟩ (.int .i64 (rl.getD k zRec).i)).setCell ⟨w.heap.size, k * 3 + 2, none⟩ u) n rl (us ++ [u]) (k + 1) := by
  obtain ⟨cur, hg, hr⟩ := h.row
  have hg1 : w1.heap[w.heap.size]? = some (.cells cur 92 (0, 0)) := kept hb hg (Nat.le_refl _)
  have hs := h.bel.size
  have e0 := heap_setCell_same w1 w.heap.size (k * 3) cur 92 (.int .i64 (rl.getD k zRec).t) hg1
  have e1 := heap_setCell_same _ w.heap.size (k * 3 + 1) _ 92 (.int .i64 (rl.getD k zRec).i) e0
  have e2 := heap_setCell_same _ w.heap.size (k * 3 + 2) _ 92 u e1
  have gk : ∀ j, j < k → (us ++ [u]).getD j (.slice none 0 0) = us.getD j (.slice none 0 0) := fun j hj => by simp [List.getD_eq_getElem?_getD, List.getElem?_append_left (show j < us.length by rw [h.len]; exact hj)]
  have gl : (us ++ [u]).getD k (.slice none 0 0) = u := by have := h.len; subst this; simp [List.getD_eq_getElem?_getD]
  have set3 : ∀ {v : Value} {xs : List Int}, Own w1 w.heap.size v xs → Own (((w1.setCell ⟨w.heap.size, k * 3, none⟩ (.int .i64 (rl.getD k zRec).t)).setCell ⟨w.heap.size, k * 3 + 1, none⟩ (.int .i64 (rl.getD k zRec).i)).setCell ⟨w.heap.size, k * 3 + 2, none⟩ u) w.heap.size v xs := fun {v xs} ho => by
    have hne : v.ownBlock ≠ some w.heap.size := own_other ho.2 hg1 (by decide)
    exact own_setCell (own_setCell (own_setCell ho (a := ⟨w.heap.size, k * 3, none⟩) hne _) (a := ⟨w.heap.size, k * 3 + 1, none⟩) hne _) (a := ⟨w.heap.size, k * 3 + 2, none⟩) hne _
  refine ⟨by rw [List.length_append, h.len]; rfl, ⟨_, e2, hr.step hk h.len u⟩, fun j hj => ?_, fun i j hi hj hij b hbi hbj => ?_, ?_⟩
  · by_cases e : j < k
    · rw [gk j e]
      exact set3 ((h.each j e).below hb (Nat.le_refl _))
    · have : j = k := by omega
      subst this
      rw [gl]
      exact set3 (hO.mono hs)
  · by_cases ei : i < k
    · rw [gk i ei] at hbi
      by_cases ej : j < k
      · rw [gk j ej] at hbj
        exact h.apart i j ei ej hij b hbi hbj
      · have : j = k := by omega
        subst this
        rw [gl] at hbj
        have h1 := ((h.each i ei).lt b hbi).2
        have h2 := (hO.lt b hbj).1
        omega
    · have : i = k := by omega
      subst this
      rw [gl] at hbi
      rw [gk j (by omega)] at hbj
      have h1 := ((h.each j (by omega)).lt b hbj).2
      have h2 := (hO.lt b hbi).1
      omega
  · exact (((h.bel.trans (hb.mono hs)).setCell (p := ⟨w.heap.size, k * 3, none⟩) (Nat.le_refl _) _).setCell (p := ⟨w.heap.size, k * 3 + 1, none⟩) (Nat.le_refl _) _).setCell (p := ⟨w.heap.size, k * 3 + 2, none⟩) (Nat.le_refl _) _

end Go.Proofs.Ytipcdioolafkpaa.recrows
