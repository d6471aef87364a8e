/- Contracts of the laws' own helpers on disks: equal, marked, held. -/
import Derived.Test.YtipcdioolafkpaaDisks
namespace Go.Proofs.Ytipcdioolafkpaa.diskmarks
open Go.ChangeShapes Go.WideShapes Go.ChangeAt Go.RowKit
open Go.Proofs.Ytipcdioolafkpaa.bytes Go.Proofs.Ytipcdioolafkpaa.pile Go.Proofs.Ytipcdioolafkpaa.reader Go.Proofs.Ytipcdioolafkpaa.lists Go.Proofs.Ytipcdioolafkpaa.sizes Go.Proofs.Ytipcdioolafkpaa.marked Go.Proofs.Ytipcdioolafkpaa.disks
set_option linter.unusedVariables false

theorem below_drew' {w w' : World} {B : Nat} (h : Below B w w') (n : Nat) : Below B w (w'.drewN n) := ⟨h.os, h.tape, h.output, h.size, h.block⟩

theorem Touch.alloc (us : List Value) (w : World) (o : Obj) : Go.Proofs.Ytipcdioolafkpaa.marked.Touch us w (w.alloc o) := ⟨rfl, rfl, rfl, by simp, fun k hk _ => Below.heap_alloc w o k hk⟩
theorem Touch.cons {us : List Value} {s : Value} {w w1 w2 : World} (h : Go.Proofs.Ytipcdioolafkpaa.marked.Touch (s :: us) w w1) (t : Go.Proofs.Ytipcdioolafkpaa.marked.Touch us w1 w2) : Go.Proofs.Ytipcdioolafkpaa.marked.Touch (s :: us) w w2 :=
  ⟨t.1.trans h.1, t.2.1.trans h.2.1, t.2.2.1.trans h.2.2.1, Nat.le_trans h.2.2.2.1 t.2.2.2.1, fun k hk hn => (t.2.2.2.2 k (by have := h.2.2.2.1; omega) (fun i hi => hn (i + 1) (by simp; omega))).trans (h.2.2.2.2 k hk hn)⟩
theorem Touch.first {us : List Value} {s : Value} {w w1 w2 : World} (h : Go.Proofs.Ytipcdioolafkpaa.marked.Touch (s :: us) w w1) (hg : w1.grownBy w2 s.ownBlock) : Go.Proofs.Ytipcdioolafkpaa.marked.Touch (s :: us) w w2 :=
  h.step (i := 0) (by simp) hg

theorem DiskAt.below {w w' : World} {base B : Nat} {s p : Value} {xs : List Int} {us : List Value} {cs : List (List Int)} (h : DiskAt w base s p xs us cs) (hb : Below B w w') (hB : w.heap.size ≤ B) : DiskAt w' base s p xs us cs := ⟨h.synced.below hb hB, h.writes.below hb hB, h.apart⟩
theorem DiskAt.span {w w' : World} {base hi : Nat} {s p : Value} {xs : List Int} {us : List Value} {cs : List (List Int)} (h : DiskAt w base s p xs us cs) (hs : Keep base hi w w') (hh : w.heap.size ≤ hi) : DiskAt w' base s p xs us cs := ⟨Own.span h.synced hs hh, Ans.spanK h.writes hs hh, h.apart⟩

/-- A disk that is marked. -/
structure DiskMarked (w : World) (base : Nat) (s p : Value) (xs : List Int) (us : List Value) (cs : List (List Int)) (q : Int) : Prop where
  synced : Own w base s (marks q xs.length)
  writes : MP w base p us cs (q + xs.length) us.length
theorem DiskMarked.below {w w' : World} {base : Nat} {s p : Value} {xs : List Int} {us : List Value} {cs : List (List Int)} {q : Int} (h : DiskMarked w base s p xs us cs q) (hb : Below w.heap.size w w') : DiskMarked w' base s p xs us cs q := ⟨h.synced.below hb (Nat.le_refl _), h.writes.below hb⟩

end Go.Proofs.Ytipcdioolafkpaa.diskmarks
