/- The laws' own helpers on a log's state: how large, copied, equal, marked, held. -/
import Derived.Test.YtipcdioolafkpaaRecMarks
namespace Go.Proofs.Ytipcdioolafkpaa.walhelp
open Go.ChangeShapes Go.WideShapes Go.ChangeAt Go.RowKit
open Go.Proofs.Ytipcdioolafkpaa.bytes Go.Proofs.Ytipcdioolafkpaa.pile Go.Proofs.Ytipcdioolafkpaa.put Go.Proofs.Ytipcdioolafkpaa.crcs Go.Proofs.Ytipcdioolafkpaa.join Go.Proofs.Ytipcdioolafkpaa.frames Go.Proofs.Ytipcdioolafkpaa.votes Go.Proofs.Ytipcdioolafkpaa.pays Go.Proofs.Ytipcdioolafkpaa.rechelp Go.Proofs.Ytipcdioolafkpaa.recrows Go.Proofs.Ytipcdioolafkpaa.recmarks
set_option linter.unusedVariables false

/-- The numbers of a log's state. -/
structure Wal5 where
  T : Int
  V : Int
  B : Int
  BT : Int
  G : Int

theorem own_recs_set {w : World} {base : Nat} {v : Value} {rl : List Rec3} {us : List Value} (h : OwnRecs w base v rl us) {d i : Nat} {cur : Array Value} {t : Nat} (hd : w.heap[d]? = some (.cells cur t (0, 0))) (h5 : t ≠ 5) (h43 : t ≠ 92) (x : Value) : OwnRecs (w.setCell ⟨d, i, none⟩ x) base v rl us where
  len := h.len
  row := by
    obtain ⟨ao, cap, rfl, h1, h2, h4⟩ := h.row
    refine ⟨ao, cap, rfl, h1, h2, fun hp => ?_⟩
    obtain ⟨g, off, cur', rfl, hbg, hg, hc⟩ := h4 hp
    refine ⟨g, off, cur', rfl, hbg, ?_, hc⟩
    rw [Below.heap_setCell _ _ _ _ (fun e => by
      subst e
      rw [hd] at hg
      simp only [Option.some.injEq, Obj.cells.injEq] at hg
      exact h43 hg.2.1)]
    exact hg
  each := fun k hk => own_setCell (h.each k hk) (a := ⟨d, i, none⟩) (own_other (h.each k hk).2 hd (fun e => h5 e.symm)) x
  apart := h.apart

/-- A copy of a log's state. -/
def WalCopy (w : World) (a : Wal5) (rl : List Rec3) (v : Value) (w' : World) : Prop :=
  ∃ o c us, v = .agg #[.int .i64 a.T, .int .i64 a.V, .int .i64 a.B, .int .i64 a.BT, .slice o rl.length c, .int .i64 a.G] ∧ OwnRecs w' w.heap.size (.slice o rl.length c) rl us ∧ Below w.heap.size w w'

end Go.Proofs.Ytipcdioolafkpaa.walhelp
