/- What the specification's DiskRun holds within its loop. -/
import Derived.Test.YtipcdioolafkpaaSpecWritten
import Derived.Test.YtipcdioolafkpaaKeeps
namespace Go.Proofs.Ytipcdioolafkpaa.specrows
open Go.ChangeShapes Go.WideShapes Go.ChangeAt Go.RowKit
open Go.Proofs.Ytipcdioolafkpaa.bytes Go.Proofs.Ytipcdioolafkpaa.pile Go.Proofs.Ytipcdioolafkpaa.reader Go.Proofs.Ytipcdioolafkpaa.lists Go.Proofs.Ytipcdioolafkpaa.sizes Go.Proofs.Ytipcdioolafkpaa.marked Go.Proofs.Ytipcdioolafkpaa.disks Go.Proofs.Ytipcdioolafkpaa.diskmarks Go.Proofs.Ytipcdioolafkpaa.specdisk Go.Proofs.Ytipcdioolafkpaa.tracks Go.Proofs.Ytipcdioolafkpaa.trackof Go.Proofs.Ytipcdioolafkpaa.crashes Go.Proofs.Ytipcdioolafkpaa.crashed Go.Proofs.Ytipcdioolafkpaa.acts Go.Proofs.Ytipcdioolafkpaa.diskof Go.Proofs.Ytipcdioolafkpaa.beside Go.Proofs.Ytipcdioolafkpaa.doside Go.Proofs.Ytipcdioolafkpaa.implrun Go.Proofs.Ytipcdioolafkpaa.speccrash Go.Proofs.Ytipcdioolafkpaa.specact Go.Proofs.Ytipcdioolafkpaa.specwrite Go.Proofs.Ytipcdioolafkpaa.specwritten Go.Proofs.Ytipcdioolafkpaa.keeps
set_option linter.unusedVariables false

/-- What the specification's DiskRun leaves. -/
def SpecRunE (w : World) (R : List Int × List Int × List (List Int) × Int) (e : Ending) (w' : World) : Prop :=
  ∃ cv so sl sc po pc us, e = .returned (.tuple #[cv, .agg #[.slice so sl sc, .slice po us.length pc], .int .i64 R.2.2.2]) ∧ w'.ownsRow w.heap.size 3 1 cv R.1.length (R.1.map (Value.int .i64)) ∧ DiskRd w' (.slice so sl sc) (.slice po us.length pc) R.2.1 us R.2.2.1 ∧ Below w.heap.size w w'

/-- Within the loop: the result, the disk, the row of codes. -/
structure SR (w wr : World) (cv : Value) (k : Nat) (codes : List Int) (s p : Value) (xs : List Int) (us : List Value) (cs : List (List Int)) : Prop where
  res : wr.heap[w.heap.size]? = some (.cells #[.slice none 0 0, .slice none 0 0] 40 (0, 0))
  disk : wr.heap[w.heap.size + 1]? = some (.cells #[s, p] 40 (0, 0))
  rd : DiskRd wr s p xs us cs
  row : wr.ownsRow w.heap.size 3 1 cv k (codes.map (Value.int .i64))
  bel : Below w.heap.size w wr

/-- A call keeps all but the disk that it reads. -/
theorem SR.call {w wr w2 : World} {cv : Value} {k : Nat} {codes : List Int} {s p : Value} {xs : List Int} {us : List Value} {cs : List (List Int)} (h : SR w wr cv k codes s p xs us cs) (hb : Below wr.heap.size wr w2) {s' p' : Value} {xs' : List Int} {us' : List Value} {cs' : List (List Int)} (hd : DiskRd w2 s' p' xs' us' cs') :
    w2.heap[w.heap.size]? = some (.cells #[.slice none 0 0, .slice none 0 0] 40 (0, 0)) ∧ w2.heap[w.heap.size + 1]? = some (.cells #[s, p] 40 (0, 0)) ∧ w2.ownsRow w.heap.size 3 1 cv k (codes.map (Value.int .i64)) ∧ Below w.heap.size w w2 :=
  ⟨(hb.block _ (Array.getElem?_eq_some_iff.1 h.res).1).trans h.res, (hb.block _ (Array.getElem?_eq_some_iff.1 h.disk).1).trans h.disk, ends_below h.row hb (Nat.le_refl _), h.bel.trans (hb.mono h.bel.size)⟩

/-- The new disk is laid into block b of its own, then into the variable. -/
theorem SR.laid {w wr w2 : World} {cv : Value} {k : Nat} {codes : List Int} {s p : Value} {xs : List Int} {us : List Value} {cs : List (List Int)} (h : SR w wr cv k codes s p xs us cs) (hb : Below wr.heap.size wr w2) {s' p' : Value} {xs' : List Int} {us' : List Value} {cs' : List (List Int)} (hd : DiskRd w2 s' p' xs' us' cs') {b : Nat} {q0 q1 : Value} (k8 : w2.heap[b]? = some (.cells #[q0, q1] 40 (0, 0))) (hbb : wr.heap.size ≤ b) :
    ((w2.setCell ⟨b, 0, none⟩ s').setCell ⟨b, 1, none⟩ p').heap[b]? = some (.cells #[s', p'] 40 (0, 0)) ∧ ((w2.setCell ⟨b, 0, none⟩ s').setCell ⟨b, 1, none⟩ p').heap[w.heap.size + 1]? = some (.cells #[s, p] 40 (0, 0)) ∧
    SR w (((((w2.setCell ⟨b, 0, none⟩ s').setCell ⟨b, 1, none⟩ p')).setCell ⟨w.heap.size + 1, 0, none⟩ s').setCell ⟨w.heap.size + 1, 1, none⟩ p') cv k codes s' p' xs' us' cs' := by
  obtain ⟨r2, d2, o2, b2⟩ := h.call hb hd
  have hlt : w.heap.size + 1 < wr.heap.size := (Array.getElem?_eq_some_iff.1 h.disk).1
  have n1 : w.heap.size + 1 ≠ b := by omega
  have n0 : w.heap.size ≠ b := by omega
  have e8 := set2 k8 s' p'
  have ed : ((w2.setCell ⟨b, 0, none⟩ s').setCell ⟨b, 1, none⟩ p').heap[w.heap.size + 1]? = some (.cells #[s, p] 40 (0, 0)) := by
    rw [heap_setCell_other _ ⟨b, 1, none⟩ _ _ n1, heap_setCell_other _ ⟨b, 0, none⟩ _ _ n1]; exact d2
  have er : ((w2.setCell ⟨b, 0, none⟩ s').setCell ⟨b, 1, none⟩ p').heap[w.heap.size]? = some (.cells #[.slice none 0 0, .slice none 0 0] 40 (0, 0)) := by
    rw [heap_setCell_other _ ⟨b, 1, none⟩ _ _ n0, heap_setCell_other _ ⟨b, 0, none⟩ _ _ n0]; exact r2
  have kset : ∀ {W : World} {b' : Nat} {a0 a1 : Value}, W.heap[b']? = some (.cells #[a0, a1] 40 (0, 0)) → KeepT W ((W.setCell ⟨b', 0, none⟩ s').setCell ⟨b', 1, none⟩ p') := fun {W b' a0 a1} kk => by
    have k1 : (W.setCell ⟨b', 0, none⟩ s').heap[b']? = some (.cells #[s', a1] 40 (0, 0)) := by
      have := heap_setCell_same W b' 0 _ 40 s' kk
      simpa using this
    exact (KeepT.set kk (by decide) (by decide) 0 s').trans (KeepT.set k1 (by decide) (by decide) 1 p')
  have oset : ∀ {W : World} {b' : Nat} {a0 a1 : Value}, W.heap[b']? = some (.cells #[a0, a1] 40 (0, 0)) → W.ownsRow w.heap.size 3 1 cv k (codes.map (Value.int .i64)) → ((W.setCell ⟨b', 0, none⟩ s').setCell ⟨b', 1, none⟩ p').ownsRow w.heap.size 3 1 cv k (codes.map (Value.int .i64)) := fun {W b' a0 a1} kk ho => by
    have hd := own_other ho kk (by decide)
    exact ownsRow_setCell_other (ownsRow_setCell_other ho (a := ⟨b', 0, none⟩) hd _) (a := ⟨b', 1, none⟩) hd _
  refine ⟨e8, ed, ⟨?_, set2 ed s' p', DiskRd.keep (DiskRd.keep hd (kset k8)) (kset ed), oset ed (oset k8 o2), below_set2 (below_set2 b2 (by omega) _ _) (by omega) _ _⟩⟩
  rw [heap_setCell_other _ ⟨w.heap.size + 1, 1, none⟩ _ _ (by simp), heap_setCell_other _ ⟨w.heap.size + 1, 0, none⟩ _ _ (by simp)]
  exact er
/-- A code more. -/
theorem SR.coded {w wr w9 : World} {cv : Value} {k : Nat} {codes : List Int} {s p : Value} {xs : List Int} {us : List Value} {cs : List (List Int)} (h : SR w wr cv k codes s p xs us cs) (hg : wr.grownBy w9 cv.ownBlock) {cv' : Value} {code : Int} (ho : w9.ownsRow w.heap.size 3 1 cv' (k + 1) (codes.map (Value.int .i64) ++ [.int .i64 code])) :
    SR w w9 cv' (k + 1) (codes ++ [code]) s p xs us cs :=
  ⟨(hg.block _ (Array.getElem?_eq_some_iff.1 h.res).1 (fun e => own_other h.row h.res (by decide) e.symm)).trans h.res, (hg.block _ (Array.getElem?_eq_some_iff.1 h.disk).1 (fun e => own_other h.row h.disk (by decide) e.symm)).trans h.disk, DiskRd.keep h.rd (KeepT.grown hg h.row), by simpa using ho, h.bel.grown hg h.bel.size (fun j hj => (World.ownsRow.lt h.row j hj).1)⟩
end Go.Proofs.Ytipcdioolafkpaa.specrows
