/- A payload is read: the decoder in a variable of the call's own. -/
import Derived.Test.YtipcdioolafkpaaRecov
import Derived.Test.YtipcdioolafkpaaEntries
namespace Go.Proofs.Ytipcdioolafkpaa.readrec
open Go.ChangeShapes Go.WideShapes Go.ChangeAt Go.RowKit
open Go.Proofs.Ytipcdioolafkpaa.bytes Go.Proofs.Ytipcdioolafkpaa.pile Go.Proofs.Ytipcdioolafkpaa.put Go.Proofs.Ytipcdioolafkpaa.crcs Go.Proofs.Ytipcdioolafkpaa.join Go.Proofs.Ytipcdioolafkpaa.frames Go.Proofs.Ytipcdioolafkpaa.get Go.Proofs.Ytipcdioolafkpaa.dec Go.Proofs.Ytipcdioolafkpaa.take Go.Proofs.Ytipcdioolafkpaa.one Go.Proofs.Ytipcdioolafkpaa.votes Go.Proofs.Ytipcdioolafkpaa.pays Go.Proofs.Ytipcdioolafkpaa.rechelp Go.Proofs.Ytipcdioolafkpaa.recrows Go.Proofs.Ytipcdioolafkpaa.recov Go.Proofs.Ytipcdioolafkpaa.entries
set_option linter.unusedVariables false

/-- The decoder at the block that the call made first, at place a. -/
structure DS (w0 w : World) (ao : Option Addr) (cap : Nat) (p : List Int) (a : Nat) : Prop where
  blk : w.heap[w0.heap.size]? = some (.cells #[.slice ao p.length cap, .int .i64 a] 60 (0, 0))
  bel : Below w0.heap.size w0 w
  rd : RdA w0 (.slice ao p.length cap) p
  le : a ≤ p.length
  len : p.length ≤ 65536
theorem DS.c0 {w0 w : World} {ao : Option Addr} {cap : Nat} {p : List Int} {a : Nat} (h : DS w0 w ao cap p a) : w.cell? ⟨w0.heap.size, 0, none⟩ = some (.slice ao p.length cap) := cell_of h.blk rfl
theorem DS.c1 {w0 w : World} {ao : Option Addr} {cap : Nat} {p : List Int} {a : Nat} (h : DS w0 w ao cap p a) : w.cell? ⟨w0.heap.size, 1, none⟩ = some (.int .i64 (a : Int)) := cell_of h.blk rfl
theorem DS.drew {w0 w : World} {ao : Option Addr} {cap : Nat} {p : List Int} {a : Nat} (h : DS w0 w ao cap p a) (m : Nat) : DS w0 (w.drewN m) ao cap p a :=
  ⟨h.blk, ⟨h.bel.os, h.bel.tape, h.bel.output, h.bel.size, h.bel.block⟩, h.rd, h.le, h.len⟩
theorem DS.set {w0 w : World} {ao : Option Addr} {cap : Nat} {p : List Int} {a : Nat} (h : DS w0 w ao cap p a) (b : Nat) (x : Int) (hx : x = (b : Int)) (hb : b ≤ p.length) : DS w0 (w.setCell ⟨w0.heap.size, 1, none⟩ (.int .i64 x)) ao cap p b := by
  subst hx
  refine ⟨?_, h.bel.setCell (Nat.le_refl _) _, h.rd, hb, h.len⟩
  have := heap_setCell_same w w0.heap.size 1 _ 60 (.int .i64 (b : Int)) h.blk
  simpa using this
theorem left_ds {w0 w : World} {ao : Option Addr} {cap : Nat} {p : List Int} {a : Nat} (h : DS w0 w ao cap p a) :
    Calls Try.prog 43 #[.pointer (some ⟨w0.heap.size, 0, none⟩)] w fun e w' => e = .returned (.int .i64 ((p.length - a : Nat) : Int)) ∧ DS w0 w' ao cap p a := by
  have hl := h.len
  have hle := h.le
  refine (left_any w w0.heap.size ao p.length cap (a : Int) (by omega) (by omega) (by unfold maxLen; omega) h.c0 h.c1).mono ?_
  rintro e w' ⟨rfl, m, rfl⟩
  exact ⟨by congr 2; omega, h.drew m⟩
theorem take_ds {w0 w : World} {ao : Option Addr} {cap : Nat} {p : List Int} {a : Nat} (h : DS w0 w ao cap p a) (n : Nat) (hn : a + n ≤ p.length) :
    Calls Try.prog 44 #[.pointer (some ⟨w0.heap.size, 0, none⟩), .int .i64 n] w fun e w' => e = .returned (cutV ao cap a n) ∧ DS w0 w' ao cap p (a + n) ∧ RdA w' (cutV ao cap a n) ((p.drop a).take n) := by
  obtain ⟨_, h2, h3⟩ := le_cap h.rd.1
  refine (take_any w w0.heap.size ao p.length cap a n hn h2 h3 h.len h.c0 h.c1 (frozen_of h.blk 1)).mono ?_
  rintro e w' ⟨rfl, m, rfl⟩
  have hd := (h.drew m).set (a + n) ((a : Int) + n) (by omega) hn
  exact ⟨rfl, hd, (cut_rd h.rd hn).below hd.bel (Nat.le_refl _)⟩
theorem number_ds {w0 w : World} {ao : Option Addr} {cap : Nat} {p : List Int} {a : Nat} (h : DS w0 w ao cap p a) :
    Calls Try.prog 35 #[.pointer (some ⟨w0.heap.size, 0, none⟩)] w fun e w' => e = .returned (.tuple #[.int .i64 (getR 9 0 0 (p.drop a)).1, .int .i64 (getR 9 0 0 (p.drop a)).2.2]) ∧
      ((getR 9 0 0 (p.drop a)).2.2 = 0 → DS w0 w' ao cap p (a + (getR 9 0 0 (p.drop a)).2.1)) ∧ ((getR 9 0 0 (p.drop a)).2.2 ≠ 0 → DS w0 w' ao cap p a) := by
  have hgn : gotN p a = getR 9 0 0 (p.drop a) := rfl
  have hok := getR_ok 9 0 0 (p.drop a) (by omega)
  rw [List.length_drop] at hok
  have hle := h.le
  have H := number_any w w0.heap.size ao cap a p h.le h.len (h.rd.below h.bel (Nat.le_refl _)).1 h.c0 h.c1 (frozen_of h.blk 1)
  rw [hgn] at H
  refine H.mono ?_
  rintro e w' ⟨rfl, h1, h2⟩
  refine ⟨rfl, fun hs => ?_, fun hs => ?_⟩
  · obtain ⟨m, rfl⟩ := h1 hs
    exact (h.drew m).set _ _ (by omega) (by have := hok hs; omega)
  · obtain ⟨m, rfl⟩ := h2 hs
    exact h.drew m
end Go.Proofs.Ytipcdioolafkpaa.readrec
