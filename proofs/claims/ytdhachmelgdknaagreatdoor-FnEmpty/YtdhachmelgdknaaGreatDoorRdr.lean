/- The reader of a script: where it stands, what it sees and goes over. -/
import Derived.Test.YtdhachmelgdknaaGreatDoorBas
namespace Go.Proofs.YtdhachmelgdknaaGreatDoor.rdr
open Go.ChangeShapes Go.WideShapes Go.ChangeAt Go.RowKit
open Go.Proofs.YtdhachmelgdknaaGreatDoor.bas
set_option linter.unusedVariables false
/-- A reader of a script. -/
structure Q where
  T : ByteArray
  ere : Bool
  pl : Nat
  bg : Int
  nm : Int
  tk : Value
  ls : Value
  op : Value
  lb : Value
  jp : Value
def Q.cells (q : Q) : Array Value := #[.string q.T, .bool q.ere, .int .i64 (q.pl : Nat), .int .i64 q.bg, .int .i64 q.nm, q.tk, q.ls, q.op, q.lb, q.jp]
/-- The reader at block d. -/
def RB (w : World) (d : Nat) (q : Q) : Prop := w.heap[d]? = some (.cells q.cells 74 (0, 0))
theorem RB.lt {w : World} {d : Nat} {q : Q} (h : RB w d q) : d < w.heap.size := (Array.getElem?_eq_some_iff.1 h).1
theorem RB.c0 {w : World} {d : Nat} {q : Q} (h : RB w d q) : w.cell? ⟨d, 0, none⟩ = some (.string q.T) := cell_of h rfl
theorem RB.c2 {w : World} {d : Nat} {q : Q} (h : RB w d q) : w.cell? ⟨d, 2, none⟩ = some (.int .i64 (q.pl : Nat)) := cell_of h rfl
theorem RB.fz {w : World} {d : Nat} {q : Q} (h : RB w d q) (i : Nat) : w.frozen? ⟨d, i, none⟩ = false := frozen_of h i
theorem RB.keep {w w' : World} {d : Nat} {q : Q} (h : RB w d q) (hk : w'.heap[d]? = w.heap[d]?) : RB w' d q := hk.trans h
theorem RB.below {w w' : World} {d : Nat} {q : Q} (h : RB w d q) (hb : Below w.heap.size w w') : RB w' d q := h.keep (hb.block d h.lt)
theorem RB.set2 {w : World} {d : Nat} {q : Q} (h : RB w d q) (k : Nat) : RB (w.setCell ⟨d, 2, none⟩ (.int .i64 (k : Nat))) d { q with pl := k } := by
  have := heap_setCell_same w d 2 _ 74 (.int .i64 (k : Nat)) h
  simpa [RB, Q.cells] using this
/-- Whether a byte is one of some. -/
def isIn (S : ByteArray) (c : UInt8) : Bool := decide (0 ≤ Lib.indexByte S.data.toList c)
/-- Whether one of some bytes stands at a place. -/
def seesP (T S : ByteArray) (p : Nat) : Bool := match T.data.toList[p]? with
  | some c => isIn S c
  | none => false
set_option maxHeartbeats 800000 in
theorem ended_any (w : World) (d : Nat) (q : Q) (h : RB w d q) (hp : q.pl ≤ q.T.size) (hT : q.T.size ≤ 100000) :
    Calls Tryz.prog 85 #[.pointer (some ⟨d, 0, none⟩)] w fun e w' => e = .returned (.bool (decide (q.pl = q.T.size))) ∧ ∃ n, w' = w.drewN n := by
  have c0 := h.c0
  have c2 := h.c2
  have hb : ((q.pl : Int) == (q.T.size : Int)) = decide (q.pl = q.T.size) := by
    by_cases e : q.pl = q.T.size
    · rw [decide_eq_true e, beq_iff_eq]; omega
    · rw [decide_eq_false e, beq_eq_false_iff_ne]; omega
  obtain ⟨b, eb⟩ : ∃ b, decide (q.pl = q.T.size) = b := ⟨_, rfl⟩
  rw [eb] at hb ⊢
  clear h eb
  go_enter Tryz.func85, Tryz.ntmps85
  go_wp2
  go_quiet (fail)
  go_wp2
  go_ret
  exact ⟨rfl, _, rfl⟩
end Go.Proofs.YtdhachmelgdknaaGreatDoor.rdr
