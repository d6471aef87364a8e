/- What DiskCrash answers, and how a result that is a disk is put where it lies. -/
import Derived.Test.YtipcdioolafkpaaCrashed
namespace Go.Proofs.Ytipcdioolafkpaa.crashans
open Go.ChangeShapes Go.WideShapes Go.ChangeAt Go.RowKit
open Go.Proofs.Ytipcdioolafkpaa.bytes Go.Proofs.Ytipcdioolafkpaa.pile Go.Proofs.Ytipcdioolafkpaa.reader Go.Proofs.Ytipcdioolafkpaa.lists Go.Proofs.Ytipcdioolafkpaa.sizes Go.Proofs.Ytipcdioolafkpaa.marked Go.Proofs.Ytipcdioolafkpaa.disks Go.Proofs.Ytipcdioolafkpaa.diskmarks Go.Proofs.Ytipcdioolafkpaa.specdisk Go.Proofs.Ytipcdioolafkpaa.tracks Go.Proofs.Ytipcdioolafkpaa.trackof Go.Proofs.Ytipcdioolafkpaa.crashes Go.Proofs.Ytipcdioolafkpaa.crashed
set_option linter.unusedVariables false

/-- What DiskCrash answers: the bytes that are left, a code. -/
noncomputable def crashA (xs : List Int) (cs : List (List Int)) (keep torn : Int) : List Int × Int := by
  classical
  exact if Right xs cs then (if keep < 0 ∨ torn < 0 then ([], 5) else (crashF xs cs keep.toNat torn.toNat, 0)) else ([], 1)
theorem crashA_wrong {xs : List Int} {cs : List (List Int)} {keep torn : Int} (h : ¬ Right xs cs) : crashA xs cs keep torn = ([], 1) := by unfold crashA; rw [if_neg h]
theorem crashA_neg {xs : List Int} {cs : List (List Int)} {keep torn : Int} (h : Right xs cs) (h2 : keep < 0 ∨ torn < 0) : crashA xs cs keep torn = ([], 5) := by unfold crashA; rw [if_pos h, if_pos h2]
theorem crashA_ok {xs : List Int} {cs : List (List Int)} {K torn : Nat} (h : Right xs cs) : crashA xs cs K torn = (crashF xs cs K torn, 0) := by
  unfold crashA
  rw [if_pos h, if_neg (by omega)]
  rfl

/-- The disk that is left, in memory of its own, and a code. -/
def CrashE (w : World) (F : List Int) (C : Int) (e : Ending) (w' : World) : Prop :=
  ∃ o c, e = .returned (.tuple #[.agg #[.slice o F.length c, .slice none 0 0], .int .i64 C]) ∧ Own w' w.heap.size (.slice o F.length c) F ∧ Below w.heap.size w w'

theorem two_blocks (w : World) (o1 o2 : Obj) : ((w.alloc o1).alloc o2).heap[w.heap.size]? = some o1 ∧ ((w.alloc o1).alloc o2).heap[w.heap.size + 1]? = some o2 := by
  have s1 : (w.alloc o1).heap.size = w.heap.size + 1 := by simp
  refine ⟨?_, ?_⟩
  · rw [Below.heap_alloc _ _ _ (by omega)]
    exact heap_alloc_new w o1
  · rw [← s1]
    exact heap_alloc_new (w.alloc o1) o2
theorem set2 {W : World} {b t : Nat} {a0 a1 : Value} (k : W.heap[b]? = some (.cells #[a0, a1] t (0, 0))) (v0 v1 : Value) :
    ((W.setCell ⟨b, 0, none⟩ v0).setCell ⟨b, 1, none⟩ v1).heap[b]? = some (.cells #[v0, v1] t (0, 0)) := by
  have k1 : (W.setCell ⟨b, 0, none⟩ v0).heap[b]? = some (.cells #[v0, a1] t (0, 0)) := by
    have := heap_setCell_same W b 0 _ t v0 k
    simpa using this
  have := heap_setCell_same _ b 1 _ t v1 k1
  simpa using this
theorem below_set2 {w W : World} {B b : Nat} (h : Below B w W) (hb : B ≤ b) (v0 v1 : Value) : Below B w ((W.setCell ⟨b, 0, none⟩ v0).setCell ⟨b, 1, none⟩ v1) :=
  (h.setCell (p := ⟨b, 0, none⟩) hb _).setCell (p := ⟨b, 1, none⟩) hb _
theorem own_set2 {W : World} {b t base : Nat} {cur : Array Value} {v : Value} {xs : List Int} (h : Own W base v xs) (k : W.heap[b]? = some (.cells cur t (0, 0))) (hne : 5 ≠ t) (v0 v1 : Value) : Own ((W.setCell ⟨b, 0, none⟩ v0).setCell ⟨b, 1, none⟩ v1) base v xs := by
  have hd := own_other h.2 k hne
  exact own_setCell (own_setCell h (a := ⟨b, 0, none⟩) hd _) (a := ⟨b, 1, none⟩) hd _

/-- Where the result's own variable lies, and what it holds when a disk is put there. -/
theorem put_result {w wr : World} {F : List Int} {C : Int} {o : Option Addr} {c : Nat} (B : Below w.heap.size w wr) (k : wr.heap[w.heap.size + 1]? = some (.cells #[.slice none 0 0, .slice none 0 0] 40 (0, 0))) (hO : Own wr w.heap.size (.slice o F.length c) F) :
    CrashE w F C (.returned (.tuple #[.agg #[.slice o F.length c, .slice none 0 0], .int .i64 C])) ((wr.setCell ⟨w.heap.size + 1, 0, none⟩ (.slice o F.length c)).setCell ⟨w.heap.size + 1, 1, none⟩ (.slice none 0 0)) :=
  ⟨o, c, rfl, own_set2 hO k (by decide) _ _, below_set2 B (by omega) _ _⟩

end Go.Proofs.Ytipcdioolafkpaa.crashans
