/- Contracts of the laws' own helpers on disks: how large, copied, equal, marked. -/
import Derived.Test.YtipcdioolafkpaaMarks
import Derived.Deep.RegionLaw
namespace Go.Proofs.Ytipcdioolafkpaa.disks
open Go.ChangeShapes Go.WideShapes Go.ChangeAt Go.RowKit
open Go.Proofs.Ytipcdioolafkpaa.bytes Go.Proofs.Ytipcdioolafkpaa.pile Go.Proofs.Ytipcdioolafkpaa.reader Go.Proofs.Ytipcdioolafkpaa.lists Go.Proofs.Ytipcdioolafkpaa.sizes Go.Proofs.Ytipcdioolafkpaa.marked
set_option linter.unusedVariables false

theorem cell_of {w : World} {b i : Nat} {cur : Array Value} {t : Nat} {v : Value} (h : w.heap[b]? = some (.cells cur t (0, 0))) (hv : cur[i]? = some v) : w.cell? ⟨b, i, none⟩ = some v := by simp [World.cell?, h, hv]
theorem frozen_of {w : World} {b : Nat} {cur : Array Value} {t : Nat} (h : w.heap[b]? = some (.cells cur t (0, 0))) (i : Nat) : w.frozen? ⟨b, i, none⟩ = false := by simp [World.frozen?, h]

theorem row_mono' {w : World} {base base' : Nat} {v : Value} {n : Nat} {us : List Value} (h : w.ownsRow base 22 1 v n us) (hb : base' ≤ base) : w.ownsRow base' 22 1 v n us := by
  obtain ⟨h1, h2 | ⟨g, c, cur, hv, hbg, r⟩⟩ := h
  · exact ⟨h1, .inl h2⟩
  · exact ⟨h1, .inr ⟨g, c, cur, hv, by omega, r⟩⟩
theorem three_blocks (w : World) (o1 o2 o3 : Obj) : (((w.alloc o1).alloc o2).alloc o3).heap[w.heap.size]? = some o1 ∧ (((w.alloc o1).alloc o2).alloc o3).heap[w.heap.size + 1]? = some o2 ∧ (((w.alloc o1).alloc o2).alloc o3).heap[w.heap.size + 2]? = some o3 := by
  have s1 : (w.alloc o1).heap.size = w.heap.size + 1 := by simp
  have s2 : ((w.alloc o1).alloc o2).heap.size = w.heap.size + 2 := by simp
  refine ⟨?_, ?_, ?_⟩
  · rw [Below.heap_alloc _ _ _ (by omega), Below.heap_alloc _ _ _ (by omega)]
    exact heap_alloc_new w o1
  · rw [Below.heap_alloc _ _ _ (by omega), ← s1]
    exact heap_alloc_new (w.alloc o1) o2
  · rw [← s2]
    exact heap_alloc_new ((w.alloc o1).alloc o2) o3

/-- A disk of the program's own type, in memory of its own: its synced bytes first, its writes behind them. -/
structure DiskAt (w : World) (base : Nat) (s p : Value) (xs : List Int) (us : List Value) (cs : List (List Int)) : Prop where
  synced : Own w base s xs
  writes : Ans w base p us cs
  apart : ∀ i, i < us.length → ∀ k, (us.getD i (.slice none 0 0)).ownBlock = some k → s.ownBlock ≠ some k

/-- A copy of a disk. -/
def DiskCopy (w : World) (xs : List Int) (cs : List (List Int)) (v : Value) (w' : World) : Prop :=
  ∃ o n c o2 c2 us, v = .agg #[.slice o n c, .slice o2 us.length c2] ∧ DiskAt w' w.heap.size (.slice o n c) (.slice o2 us.length c2) xs us cs ∧ Below w.heap.size w w'

end Go.Proofs.Ytipcdioolafkpaa.disks
