/- A record is put behind the log's first N: where there is room. -/
import Derived.Test.YtipcdioolafkpaaFits
import Derived.Deep.RegionLawGrows
namespace Go.Proofs.Ytipcdioolafkpaa.logput
open Go.ChangeShapes Go.WideShapes Go.ChangeAt Go.RowKit
open Go.Proofs.Ytipcdioolafkpaa.bytes Go.Proofs.Ytipcdioolafkpaa.pile Go.Proofs.Ytipcdioolafkpaa.put Go.Proofs.Ytipcdioolafkpaa.crcs Go.Proofs.Ytipcdioolafkpaa.join Go.Proofs.Ytipcdioolafkpaa.frames Go.Proofs.Ytipcdioolafkpaa.get Go.Proofs.Ytipcdioolafkpaa.dec Go.Proofs.Ytipcdioolafkpaa.take Go.Proofs.Ytipcdioolafkpaa.one Go.Proofs.Ytipcdioolafkpaa.votes Go.Proofs.Ytipcdioolafkpaa.pays Go.Proofs.Ytipcdioolafkpaa.rechelp Go.Proofs.Ytipcdioolafkpaa.recrows Go.Proofs.Ytipcdioolafkpaa.recov Go.Proofs.Ytipcdioolafkpaa.fits
set_option linter.unusedVariables false

theorem own_set43 {w : World} {B g t : Nat} {cur : Array Value} {v : Value} {ys : List Int} (h : Own w B v ys) (hg : w.heap[g]? = some (.cells cur t (0, 0))) (ht : 5 ≠ t) (i : Nat) (x : Value) : Own (w.setCell ⟨g, i, none⟩ x) B v ys :=
  own_setCell h (a := ⟨g, i, none⟩) (own_other h.2 hg ht) x
theorem own_set3 {w : World} {B g o : Nat} {cur : Array Value} {v x1 x2 x3 : Value} {ys : List Int} (h : Own w B v ys) (hg : w.heap[g]? = some (.cells cur 92 (0, 0))) : Own (w.setCells g o [x1, x2, x3]) B v ys := by
  have h1 := own_set43 h hg (by decide) o x1
  have g1 := heap_setCell_same w g o cur 92 x1 hg
  have h2 := own_set43 h1 g1 (by decide) (o + 1) x2
  have g2 := heap_setCell_same _ g (o + 1) _ 92 x2 g1
  exact own_set43 h2 g2 (by decide) (o + 1 + 1) x3
theorem set3_at {w : World} {g o : Nat} {cur : Array Value} {x1 x2 x3 : Value} (hg : w.heap[g]? = some (.cells cur 92 (0, 0))) : (w.setCells g o [x1, x2, x3]).heap[g]? = some (.cells (((cur.setIfInBounds o x1).setIfInBounds (o + 1) x2).setIfInBounds (o + 1 + 1) x3) 92 (0, 0)) :=
  heap_setCell_same _ g (o + 1 + 1) _ 92 x3 (heap_setCell_same _ g (o + 1) _ 92 x2 (heap_setCell_same w g o cur 92 x1 hg))
theorem set3_grown (w : World) (g o : Nat) (x1 x2 x3 : Value) : w.grownBy (w.setCells g o [x1, x2, x3]) (some g) :=
  grown_trans (grown_trans (set_grown _ _ _ _) (set_grown _ _ _ _)) (set_grown _ _ _ _)
theorem getD_take_lt {α : Type} (l : List α) (N k : Nat) (r z : α) (h : k < N) (hN : N ≤ l.length) : (l.take N ++ [r]).getD k z = l.getD k z := by
  have h1 : k < (l.take N).length := by rw [List.length_take]; omega
  simp [List.getD_eq_getElem?_getD, List.getElem?_append_left h1, h]
theorem getD_take_eq {α : Type} (l : List α) (N : Nat) (r z : α) (hN : N ≤ l.length) : (l.take N ++ [r]).getD N z = r := by
  have h1 : (l.take N).length = N := by rw [List.length_take]; omega
  simp [List.getD_eq_getElem?_getD, h1]
/-- Where there is room. -/
theorem put_room {w : World} {B g off cap : Nat} {rl : List Rec3} {us : List Value} (h : OwnRecs w B (.slice (some ⟨g, off, none⟩) rl.length cap) rl us) (hroom : Room w B (.slice (some ⟨g, off, none⟩) rl.length cap)) (N : Nat) (hN : N ≤ rl.length) (hc : N + 1 ≤ cap) (hcm : cap ≤ maxLen) {x y : Int} {u : Value} {d : List Int} (hu : Own w B u d) (hap : ∀ b, u.ownBlock = some b → ∀ j, j < us.length → (us.getD j (.slice none 0 0)).ownBlock ≠ some b) :
    OwnRecs (w.setCells g (off + N * 3) [.int .i64 x, .int .i64 y, u]) B (.slice (some ⟨g, off, none⟩) (N + 1) cap) (rl.take N ++ [⟨x, y, d⟩]) (us.take N ++ [u]) ∧ Room (w.setCells g (off + N * 3) [.int .i64 x, .int .i64 y, u]) B (.slice (some ⟨g, off, none⟩) (N + 1) cap) := by
  obtain ⟨ao', n', cap', e, h0 | ⟨g', off', cur, e2, hB, hg, hs⟩⟩ := hroom
  · simp only [Value.slice.injEq] at e
    rw [h0.1] at e
    exact absurd e.1 (by simp)
  simp only [Value.slice.injEq] at e
  obtain ⟨e1, rfl, rfl⟩ := e
  rw [e2] at e1
  simp only [Option.some.injEq, Addr.mk.injEq, and_true] at e1
  obtain ⟨rfl, rfl⟩ := e1
  have hlen := h.len
  have hl1 : (rl.take N ++ [(⟨x, y, d⟩ : Rec3)]).length = N + 1 := by simp; omega
  have hl2 : (us.take N ++ [u]).length = N + 1 := by simp; omega
  have hsz : (((cur.setIfInBounds (off + N * 3) (.int .i64 x)).setIfInBounds (off + N * 3 + 1) (.int .i64 y)).setIfInBounds (off + N * 3 + 1 + 1) u).size = cur.size := by simp
  refine ⟨⟨by rw [hl1, hl2], ⟨some ⟨g, off, none⟩, cap, by rw [hl1], by omega, hcm, fun _ => ⟨g, off, _, rfl, hB, set3_at hg, fun k hk => ?_⟩⟩, fun k hk => ?_, fun j k hj hk hne b hb => ?_⟩, ⟨_, _, _, rfl, .inr ⟨g, off, _, rfl, hB, set3_at hg, by rw [hsz]; exact hs⟩⟩⟩
  · rw [hl1] at hk
    by_cases hkN : k < N
    · obtain ⟨ao', cap', e, _, _, h4⟩ := h.row
      simp only [Value.slice.injEq, true_and] at e
      obtain ⟨rfl, rfl⟩ := e
      obtain ⟨g2, off2, cur2, e3, _, hg2, hcells⟩ := h4 (by omega)
      simp only [Option.some.injEq, Addr.mk.injEq, and_true] at e3
      obtain ⟨rfl, rfl⟩ := e3
      rw [hg] at hg2
      simp only [Option.some.injEq, Obj.cells.injEq, and_true] at hg2
      subst hg2
      obtain ⟨a1, a2, a3⟩ := hcells k (by omega)
      rw [getD_take_lt _ _ _ _ _ hkN hN, getD_take_lt _ _ _ _ _ hkN (by omega)]
      simp only [Array.getElem?_setIfInBounds]
      refine ⟨?_, ?_, ?_⟩
      · rw [if_neg (by omega), if_neg (by omega), if_neg (by omega)]; exact a1
      · rw [if_neg (by omega), if_neg (by omega), if_neg (by omega)]; exact a2
      · rw [if_neg (by omega), if_neg (by omega), if_neg (by omega)]; exact a3
    · obtain rfl : k = N := by omega
      rw [getD_take_eq _ _ _ _ hN, getD_take_eq _ _ _ _ (by omega)]
      simp only [Array.getElem?_setIfInBounds, Array.size_setIfInBounds]
      refine ⟨?_, ?_, ?_⟩
      all_goals
        repeat' split
        all_goals first | rfl | omega | simp_all
  · rw [hl1] at hk
    by_cases hkN : k < N
    · rw [getD_take_lt _ _ _ _ _ hkN hN, getD_take_lt _ _ _ _ _ hkN (by omega)]
      exact own_set3 (h.each k (by omega)) hg
    · obtain rfl : k = N := by omega
      rw [getD_take_eq _ _ _ _ hN, getD_take_eq _ _ _ _ (by omega)]
      exact own_set3 hu hg
  · rw [hl1] at hj hk
    by_cases hjN : j < N
    · by_cases hkN : k < N
      · rw [getD_take_lt _ _ _ _ _ hjN (by omega)] at hb
        rw [getD_take_lt _ _ _ _ _ hkN (by omega)]
        exact h.apart j k (by omega) (by omega) hne b hb
      · obtain rfl : k = N := by omega
        rw [getD_take_lt _ _ _ _ _ hjN (by omega)] at hb
        rw [getD_take_eq _ _ _ _ (by omega)]
        exact fun e => hap b e j (by omega) hb
    · obtain rfl : j = N := by omega
      rw [getD_take_eq _ _ _ _ (by omega)] at hb
      rw [getD_take_lt _ _ _ _ _ (by omega) (by omega)]
      exact hap b hb k (by omega)

/-- The cells of the log's first N. -/
def oldC (cur : Array Value) (off N : Nat) : List Value := (cur.toList.drop off).take (N * 3)
theorem oldC_length {cur : Array Value} {off N cap : Nat} (h : off + cap * 3 ≤ cur.size) (hN : N ≤ cap) : (oldC cur off N).length = N * 3 := by
  unfold oldC
  rw [List.length_take, List.length_drop, Array.length_toList]
  omega
theorem oldC_get {cur : Array Value} {off N j : Nat} (hj : j < N * 3) : (oldC cur off N)[j]? = cur[off + j]? := by
  unfold oldC
  rw [List.getElem?_take_of_lt hj, List.getElem?_drop, Array.getElem?_toList]
/-- Where there is none: a row of the call's own. -/
theorem put_grow {w w' : World} {B : Nat} {lv : Value} {rl : List Rec3} {us : List Value} (h : OwnRecs w B lv rl us) (hB : B ≤ w.heap.size) (N : Nat) (hN : N ≤ rl.length) {x y : Int} {u v' : Value} {d : List Int} (hu : Own w B u d) (hap : ∀ b, u.ownBlock = some b → ∀ j, j < us.length → (us.getD j (.slice none 0 0)).ownBlock ≠ some b)
    (olds : List Value) (hol : olds.length = N * 3) (hold : ∀ k, k < N → olds[k * 3]? = some (.int .i64 (rl.getD k zRec).t) ∧ olds[k * 3 + 1]? = some (.int .i64 (rl.getD k zRec).i) ∧ olds[k * 3 + 2]? = some (us.getD k (.slice none 0 0)))
    (hown : w'.ownsRow w.heap.size 92 3 v' (N + 1) (olds ++ [.int .i64 x, .int .i64 y, u])) (hg : w.grownBy w' none) :
    OwnRecs w' B v' (rl.take N ++ [⟨x, y, d⟩]) (us.take N ++ [u]) ∧ Room w' B v' := by
  have hlen := h.len
  have hl1 : (rl.take N ++ [(⟨x, y, d⟩ : Rec3)]).length = N + 1 := by simp; omega
  have hl2 : (us.take N ++ [u]).length = N + 1 := by simp; omega
  have hkeep : ∀ {v : Value} {zs : List Int}, Own w B v zs → Own w' B v zs := fun {v zs} ho => own_keptR ho hg (fun k _ e => by simp at e)
  obtain ⟨hll, ⟨_, h0⟩ | ⟨g, cap, cur, rfl, hBg, hgk, hnc, hcm, hcs, htake⟩⟩ := hown
  · omega
  have hcell : ∀ j, j < (N + 1) * 3 → cur[j]? = (olds ++ [.int .i64 x, .int .i64 y, u])[j]? := fun j hj => by
    rw [← htake, List.getElem?_take_of_lt (by omega), Array.getElem?_toList]
  refine ⟨⟨by rw [hl1, hl2], ⟨some ⟨g, 0, none⟩, cap, by rw [hl1], by omega, hcm, fun _ => ⟨g, 0, cur, rfl, by omega, hgk, fun k hk => ?_⟩⟩, fun k hk => ?_, fun j k hj hk hne b hb => ?_⟩, ⟨_, _, _, rfl, .inr ⟨g, 0, cur, rfl, by omega, hgk, by omega⟩⟩⟩
  · rw [hl1] at hk
    rw [Nat.zero_add, hcell _ (by omega), hcell _ (by omega), hcell _ (by omega)]
    by_cases hkN : k < N
    · rw [getD_take_lt _ _ _ _ _ hkN hN, getD_take_lt _ _ _ _ _ hkN (by omega), List.getElem?_append_left (by omega), List.getElem?_append_left (by omega), List.getElem?_append_left (by omega)]
      exact hold k hkN
    · obtain rfl : k = N := by omega
      rw [getD_take_eq _ _ _ _ hN, getD_take_eq _ _ _ _ (by omega), List.getElem?_append_right (by omega), List.getElem?_append_right (by omega), List.getElem?_append_right (by omega), hol, Nat.sub_self, Nat.add_sub_cancel_left, Nat.add_sub_cancel_left]
      exact ⟨rfl, rfl, rfl⟩
  · rw [hl1] at hk
    by_cases hkN : k < N
    · rw [getD_take_lt _ _ _ _ _ hkN hN, getD_take_lt _ _ _ _ _ hkN (by omega)]
      exact hkeep (h.each k (by omega))
    · obtain rfl : k = N := by omega
      rw [getD_take_eq _ _ _ _ hN, getD_take_eq _ _ _ _ (by omega)]
      exact hkeep hu
  · rw [hl1] at hj hk
    by_cases hjN : j < N
    · by_cases hkN : k < N
      · rw [getD_take_lt _ _ _ _ _ hjN (by omega)] at hb
        rw [getD_take_lt _ _ _ _ _ hkN (by omega)]
        exact h.apart j k (by omega) (by omega) hne b hb
      · obtain rfl : k = N := by omega
        rw [getD_take_lt _ _ _ _ _ hjN (by omega)] at hb
        rw [getD_take_eq _ _ _ _ (by omega)]
        exact fun e => hap b e j (by omega) hb
    · obtain rfl : j = N := by omega
      rw [getD_take_eq _ _ _ _ (by omega)] at hb
      rw [getD_take_lt _ _ _ _ _ (by omega) (by omega)]
      exact hap b hb k (by omega)
end Go.Proofs.Ytipcdioolafkpaa.logput
