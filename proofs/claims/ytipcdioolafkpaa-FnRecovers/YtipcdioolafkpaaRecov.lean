/- What a recovery does, of the numbers alone; its block in memory; the program's fits. -/
import Derived.Test.YtipcdioolafkpaaRecRows
import Derived.Test.YtipcdioolafkpaaOne
import Derived.BigRegion
import Derived.Deep.RegionHeldLaw
namespace Go.Proofs.Ytipcdioolafkpaa.recov
open Go.ChangeShapes Go.WideShapes Go.ChangeAt Go.RowKit
open Go.Proofs.Ytipcdioolafkpaa.bytes Go.Proofs.Ytipcdioolafkpaa.pile Go.Proofs.Ytipcdioolafkpaa.put Go.Proofs.Ytipcdioolafkpaa.crcs Go.Proofs.Ytipcdioolafkpaa.join Go.Proofs.Ytipcdioolafkpaa.frames Go.Proofs.Ytipcdioolafkpaa.get Go.Proofs.Ytipcdioolafkpaa.dec Go.Proofs.Ytipcdioolafkpaa.take Go.Proofs.Ytipcdioolafkpaa.one Go.Proofs.Ytipcdioolafkpaa.votes Go.Proofs.Ytipcdioolafkpaa.pays Go.Proofs.Ytipcdioolafkpaa.rechelp Go.Proofs.Ytipcdioolafkpaa.recrows
set_option linter.unusedVariables false

/-- A log's state while it is recovered. -/
structure St where
  term : Int
  vote : Int
  base : Int
  bterm : Int
  log : List Rec3
/-- The first number of a payload, the second, what stands behind them; whether there are two. -/
def num1 (p : List Int) : Int × Nat × Int := getR 9 0 0 (p.drop 1)
def num2 (p : List Int) : Int × Nat × Int := getR 9 0 0 (p.drop (1 + (num1 p).2.1))
def restP (p : List Int) : List Int := p.drop (1 + (num1 p).2.1 + (num2 p).2.1)
def termIn (n : Int) : Prop := 0 ≤ n ∧ n ≤ 1000000
instance (n : Int) : Decidable (termIn n) := inferInstanceAs (Decidable (_ ∧ _))
/-- The term of the last of the log's first n records, or of the base. -/
def termB (s : St) (n : Nat) : Int := if n = 0 then s.bterm else (s.log.getD (n - 1) zRec).t
def fitV (s : St) (a b : Int) : Option St := if a < s.term then none else some { s with term := a, vote := b }
def fitE (s : St) (a b : Int) (d : List Int) : Option St :=
  if b - s.base - 1 < 0 ∨ (s.log.length : Int) < b - s.base - 1 ∨ 100 ≤ b - s.base - 1 then none else some { s with log := s.log.take (b - s.base - 1).toNat ++ [⟨a, b, d⟩] }
def fitB (s : St) (a b : Int) : Option St :=
  if a - s.base < 0 ∨ (s.log.length : Int) < a - s.base ∨ b ≠ termB s (a - s.base).toNat then none else some { s with base := a, bterm := b, log := s.log.drop (a - s.base).toNat }
/-- A payload is done: none if it is no record or does not fit. -/
def takeS (s : St) (p : List Int) : Option St :=
  if p = [] ∨ (num1 p).2.2 ≠ 0 ∨ (num2 p).2.2 ≠ 0 ∨ ¬ termIn (num1 p).1 ∨ ¬ termIn (num2 p).1 then none
  else if p.getD 0 0 = 1 then (if 0 < (restP p).length then none else fitV s (num1 p).1 (num2 p).1)
  else if p.getD 0 0 = 2 then (if (num2 p).1 < 1 ∨ 1000 < (restP p).length then none else fitE s (num1 p).1 (num2 p).1 (restP p))
  else if p.getD 0 0 = 3 then (if 0 < (restP p).length then none else fitB s (num1 p).1 (num2 p).1)
  else none
/-- The frames from a place on are gone over: the state, and how many bytes made it. -/
def recL (xs : List Int) : Nat → St → Nat → St × Nat
  | 0, s, a => (s, a)
  | f + 1, s, a => if (frameAt (xs.drop a)).1 = -1 then (match takeS s (frameAt (xs.drop a)).2.1 with | some s' => recL xs f s' (a + (frameAt (xs.drop a)).2.2) | none => (s, a)) else (s, a)

/-- The recovery's block. -/
def rcells (dv : Value) (a : Nat) (s : St) (lv : Value) (good : Nat) : Array Value := #[dv, .int .i64 a, .int .i64 s.term, .int .i64 s.vote, .int .i64 s.base, .int .i64 s.bterm, lv, .int .i64 good]
/-- What lies behind the log's length, up to its capacity, is there. -/
def Room (w : World) (B : Nat) (lv : Value) : Prop := ∃ ao n cap, lv = .slice ao n cap ∧ ((ao = none ∧ n = 0 ∧ cap = 0) ∨ ∃ g off cur, ao = some ⟨g, off, none⟩ ∧ B ≤ g ∧ w.heap[g]? = some (.cells cur 92 (0, 0)) ∧ off + cap * 3 ≤ cur.size)
structure RV (w : World) (B rb : Nat) (dv : Value) (a : Nat) (s : St) (lv : Value) (us : List Value) (good : Nat) : Prop where
  blk : w.heap[rb]? = some (.cells (rcells dv a s lv good) 86 (0, 0))
  log : OwnRecs w B lv s.log us
  room : Room w B lv

set_option maxHeartbeats 1000000 in
theorem termBehind_any (w : World) (B rb : Nat) (dv : Value) (a : Nat) (s : St) (lv : Value) (us : List Value) (good : Nat) (h : RV w B rb dv a s lv us good) (n : Nat) (hn : n ≤ s.log.length) :
    Calls Try.prog 91 #[.pointer (some ⟨rb, 0, none⟩), .int .i64 n] w fun e w' => e = .returned (.int .i64 (termB s n)) ∧ w' = w := by
  have c5 : w.cell? ⟨rb, 5, none⟩ = some (.int .i64 s.bterm) := cell_of h.blk rfl
  have c6 : w.cell? ⟨rb, 6, none⟩ = some lv := cell_of h.blk rfl
  obtain ⟨ao, cap, rfl, h1, h2, h3⟩ := h.log.row
  unfold maxLen at h2
  cases n with
  | zero =>
    have HT : Hid (termB s 0 = s.bterm) := by unfold Hid termB; simp
    clear h h3
    rw [HT.out]
    go_enter Try.func91, Try.ntmps91
    go_wp2
    go_ret
    exact ⟨rfl, rfl⟩
  | succ n =>
    obtain ⟨g, off, cur, rfl, _, hg, hc⟩ := h3 (by omega)
    have HT : Hid (termB s (n + 1) = (s.log.getD n zRec).t) := by unfold Hid termB; simp
    have ct : w.cell? ⟨g, off + n * 3, none⟩ = some (.int .i64 (s.log.getD n zRec).t) := cell_of hg (hc n (by omega)).1
    rw [HT.out]
    clear h hg hc HT h3
    generalize (s.log.getD n zRec).t = T at ct ⊢
    have hlt : n < s.log.length := by omega
    go_enter Try.func91, Try.ntmps91
    go_wp2
    go_ret
    exact ⟨rfl, rfl⟩
end Go.Proofs.Ytipcdioolafkpaa.recov
