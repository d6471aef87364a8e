/- Roots of primes, as the specification reckons them (its comparison of powers a premise). -/
import Derived.Test.YtkkildgdeagpeahRule
namespace Go.Proofs.Ytkkildgdeagpeah.frac
open Go.ChangeShapes Go.WideShapes Go.ChangeAt Go.RowKit
open Go.Proofs.Ytkkildgdeagpeah.bytes Go.Proofs.Ytkkildgdeagpeah.rot Go.Proofs.Ytkkildgdeagpeah.root Go.Proofs.Ytkkildgdeagpeah.arr Go.Proofs.Ytkkildgdeagpeah.primes Go.Proofs.Ytkkildgdeagpeah.rule
set_option linter.unusedVariables false

/-- The root behind t halvings. -/
def bT (p r : Nat) : Nat → Nat
  | 0 => 0
  | t + 1 => if (bT p r t + 2 ^ (35 - t)) ^ r ≤ p * 2 ^ (32 * r) then bT p r t + 2 ^ (35 - t) else bT p r t
theorem bT_le (p r t : Nat) (h : t ≤ 36) : bT p r t + 2 ^ (36 - t) ≤ 68719476736 := by
  induction t with
  | zero => show 0 + 2 ^ 36 ≤ 68719476736; decide
  | succ t ih =>
    have h1 := ih (by omega)
    have e : 2 ^ (36 - t) = 2 * 2 ^ (35 - t) := by rw [show 36 - t = (35 - t) + 1 by omega, Nat.pow_succ]; omega
    rw [show 36 - (t + 1) = 35 - t by omega, bT]
    split
    · omega
    · have := Nat.pow_pos (n := 35 - t) (show 0 < 2 by decide); omega
theorem frac2 : ∀ j, j < 8 → bT ((prT 312).getD j 0) 2 36 % 4294967296 = ruleL.getD j 0 := by rw [prT_312]; decide +kernel
theorem frac3 : ∀ j, j < 64 → bT ((prT 312).getD j 0) 3 36 % 4294967296 = ruleL.getD (8 + j) 0 := by rw [prT_312]; decide +kernel

/-- What the comparison of powers answers. -/
def LessE (p r : Nat) : Prop := ∀ (W : World) (t : Nat), t < 36 → Calls Try.prog 56 #[.int .i64 ((bT p r t + 2 ^ (35 - t) : Nat) : Int), .int .i64 p, .int .i64 r] W fun e w' => e = .returned (.bool (decide ((bT p r t + 2 ^ (35 - t)) ^ r ≤ p * 2 ^ (32 * r)))) ∧ Below W.heap.size W w'

set_option maxRecDepth 20000 in
set_option maxHeartbeats 8000000 in
theorem frac_any (w : World) (p r : Nat) (HLess : LessE p r) :
    Calls Try.prog 45 #[.int .i64 p, .int .i64 r] w fun e w' => e = .returned (.int .i64 ((bT p r 36 % 4294967296 : Nat) : Int)) ∧ Below w.heap.size w w' := by
  have HL := hide HLess
  have H0 : Hid (((bT p r 0 + 2 ^ (36 - 0) : Nat) : Int) = 68719476736) := hide (by rw [bT]; decide)
  clear HLess
  go_enter Try.func45, Try.ntmps45
  go_wp2
  go_loopw [5, 6] (fun lo hi wr => ∃ t : Nat, t ≤ 36 ∧ lo = .int .i64 (bT p r t : Nat) ∧ hi = .int .i64 ((bT p r t + 2 ^ (36 - t) : Nat) : Int) ∧ Hid (Below w.heap.size w wr)) (fun lo hi _ => (intOf hi - intOf lo).toNat)
  case atStart => exact ⟨0, by omega, by rw [bT]; rfl, by rw [H0.out], hide (Below.refl _ _)⟩
  case round =>
    obtain ⟨t, ht, rfl, rfl, HB⟩ := hrel
    have hle := bT_le p r t ht
    by_cases h36 : t < 36
    · have e : 2 ^ (36 - t) = 2 * 2 ^ (35 - t) := by rw [show 36 - t = (35 - t) + 1 by omega, Nat.pow_succ]; omega
      have hpos := Nat.pow_pos (n := 35 - t) (show 0 < 2 by decide)
      have HS : Hid (bT p r (t + 1) = if (bT p r t + 2 ^ (35 - t)) ^ r ≤ p * 2 ^ (32 * r) then bT p r t + 2 ^ (35 - t) else bT p r t) := hide rfl
      have HD : Hid (2 ^ (36 - (t + 1)) = 2 ^ (35 - t)) := hide (by rw [show 36 - (t + 1) = 35 - t by omega])
      have HC := hide (HL.out wr t h36)
      rw [e] at hle ⊢
      generalize 2 ^ (35 - t) = D at hle hpos HS HD HC ⊢
      generalize bT p r t = B at hle HS HC ⊢
      obtain ⟨X, hX⟩ : ∃ X, X = B + D := ⟨_, rfl⟩
      obtain ⟨M, hM⟩ : ∃ M, M = B + 2 * D := ⟨_, rfl⟩
      rw [← hX] at HS HC
      rw [← hM] at hle ⊢
      have hBM : (B : Int) + 1 < (M : Int) := by omega
      have hmid : ((B : Int) + (M : Int)) / 2 = (X : Int) := by omega
      have hXB : X = B + D := hX
      have HXM := hide (And.intro hX hM)
      have hX64 : X < 68719476736 := by omega
      have hM64 : M ≤ 68719476736 := hle
      clear hX hM hXB hle e
      obtain ⟨bb, hbb⟩ : ∃ bb, bb = decide (X ^ r ≤ p * 2 ^ (32 * r)) := ⟨_, rfl⟩
      have HS2 : Hid (bT p r (t + 1) = if bb = true then X else B) := by
        unfold Hid
        rw [HS.out, hbb]
        simp
      rw [← hbb] at HC
      clear hbb HS
      go_wp2_with fail
      refine HC.out.mono ?_
      rintro e w2 ⟨rfl, B2⟩
      have HB2 := hide (HB.out.trans (B2.mono HB.out.size))
      clear HC B2
      cases bb with
      | true =>
        rw [if_pos rfl] at HS2
        go_wp2
        go_roundw
        case rel => exact ⟨t + 1, by omega, by rw [HS2.out], by rw [HS2.out, HD.out]; congr 1; have := HXM.out; omega, HB2⟩
        case measure => have := HXM.out; simp [intOf]; omega
      | false =>
        rw [if_neg (by decide)] at HS2
        go_wp2
        go_roundw
        case rel => exact ⟨t + 1, by omega, by rw [HS2.out], by rw [HS2.out, HD.out]; congr 1; have := HXM.out; omega, HB2⟩
        case measure => have := HXM.out; simp [intOf]; omega
    · obtain rfl : t = 36 := by omega
      rw [show 2 ^ (36 - 36) = 1 by decide] at hle ⊢
      obtain ⟨B, hB⟩ : ∃ B, B = bT p r 36 := ⟨_, rfl⟩
      have HR : Hid (((B : Nat) : Int) % 4294967296 = ((bT p r 36 % 4294967296 : Nat) : Int)) := hide (by rw [hB]; omega)
      rw [← hB] at hle ⊢
      clear hB
      obtain ⟨M, hM⟩ : ∃ M, M = B + 1 := ⟨_, rfl⟩
      rw [← hM]
      have hBM : ¬ (B : Int) + 1 < (M : Int) := by omega
      have hM64 : M ≤ 68719476736 := by omega
      clear hM
      go_wp2
      go_ret
      exact ⟨congrArg (fun z => Ending.returned (Value.int IntKind.i64 z)) (HR.out.trans (by first | rfl | omega)), HB.out⟩
end Go.Proofs.Ytkkildgdeagpeah.frac
