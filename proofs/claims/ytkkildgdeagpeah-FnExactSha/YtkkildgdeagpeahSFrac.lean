/- Roots of primes, as the specification reckons them: the constants. -/
import Derived.Test.YtkkildgdeagpeahFrac
import Derived.Test.YtkkildgdeagpeahLess
namespace Go.Proofs.Ytkkildgdeagpeah.sfrac
open Go.ChangeShapes Go.WideShapes Go.ChangeAt Go.RowKit
open Go.Proofs.Ytkkildgdeagpeah.bytes Go.Proofs.Ytkkildgdeagpeah.primes Go.Proofs.Ytkkildgdeagpeah.rule Go.Proofs.Ytkkildgdeagpeah.frac Go.Proofs.Ytkkildgdeagpeah.less
set_option linter.unusedVariables false

theorem les3_0 : ∀ j, j < 8 → ∀ t, t < 36 → cmp (pw (bT ((prT 312).getD (0 + j) 0) 3 t + 2 ^ (35 - t)) 3) (want ((prT 312).getD (0 + j) 0) 3 2) 10 = decide ((bT ((prT 312).getD (0 + j) 0) 3 t + 2 ^ (35 - t)) ^ 3 ≤ (prT 312).getD (0 + j) 0 * 2 ^ (32 * 3)) := by rw [prT_312]; decide +kernel
theorem les3_1 : ∀ j, j < 8 → ∀ t, t < 36 → cmp (pw (bT ((prT 312).getD (8 + j) 0) 3 t + 2 ^ (35 - t)) 3) (want ((prT 312).getD (8 + j) 0) 3 2) 10 = decide ((bT ((prT 312).getD (8 + j) 0) 3 t + 2 ^ (35 - t)) ^ 3 ≤ (prT 312).getD (8 + j) 0 * 2 ^ (32 * 3)) := by rw [prT_312]; decide +kernel
theorem les3_2 : ∀ j, j < 8 → ∀ t, t < 36 → cmp (pw (bT ((prT 312).getD (16 + j) 0) 3 t + 2 ^ (35 - t)) 3) (want ((prT 312).getD (16 + j) 0) 3 2) 10 = decide ((bT ((prT 312).getD (16 + j) 0) 3 t + 2 ^ (35 - t)) ^ 3 ≤ (prT 312).getD (16 + j) 0 * 2 ^ (32 * 3)) := by rw [prT_312]; decide +kernel
theorem les3_3 : ∀ j, j < 8 → ∀ t, t < 36 → cmp (pw (bT ((prT 312).getD (24 + j) 0) 3 t + 2 ^ (35 - t)) 3) (want ((prT 312).getD (24 + j) 0) 3 2) 10 = decide ((bT ((prT 312).getD (24 + j) 0) 3 t + 2 ^ (35 - t)) ^ 3 ≤ (prT 312).getD (24 + j) 0 * 2 ^ (32 * 3)) := by rw [prT_312]; decide +kernel
theorem les3_4 : ∀ j, j < 8 → ∀ t, t < 36 → cmp (pw (bT ((prT 312).getD (32 + j) 0) 3 t + 2 ^ (35 - t)) 3) (want ((prT 312).getD (32 + j) 0) 3 2) 10 = decide ((bT ((prT 312).getD (32 + j) 0) 3 t + 2 ^ (35 - t)) ^ 3 ≤ (prT 312).getD (32 + j) 0 * 2 ^ (32 * 3)) := by rw [prT_312]; decide +kernel
theorem les3_5 : ∀ j, j < 8 → ∀ t, t < 36 → cmp (pw (bT ((prT 312).getD (40 + j) 0) 3 t + 2 ^ (35 - t)) 3) (want ((prT 312).getD (40 + j) 0) 3 2) 10 = decide ((bT ((prT 312).getD (40 + j) 0) 3 t + 2 ^ (35 - t)) ^ 3 ≤ (prT 312).getD (40 + j) 0 * 2 ^ (32 * 3)) := by rw [prT_312]; decide +kernel
theorem les3_6 : ∀ j, j < 8 → ∀ t, t < 36 → cmp (pw (bT ((prT 312).getD (48 + j) 0) 3 t + 2 ^ (35 - t)) 3) (want ((prT 312).getD (48 + j) 0) 3 2) 10 = decide ((bT ((prT 312).getD (48 + j) 0) 3 t + 2 ^ (35 - t)) ^ 3 ≤ (prT 312).getD (48 + j) 0 * 2 ^ (32 * 3)) := by rw [prT_312]; decide +kernel
theorem les3_7 : ∀ j, j < 8 → ∀ t, t < 36 → cmp (pw (bT ((prT 312).getD (56 + j) 0) 3 t + 2 ^ (35 - t)) 3) (want ((prT 312).getD (56 + j) 0) 3 2) 10 = decide ((bT ((prT 312).getD (56 + j) 0) 3 t + 2 ^ (35 - t)) ^ 3 ≤ (prT 312).getD (56 + j) 0 * 2 ^ (32 * 3)) := by rw [prT_312]; decide +kernel
theorem les2 : ∀ j, j < 8 → ∀ t, t < 36 → cmp (pw (bT ((prT 312).getD j 0) 2 t + 2 ^ (35 - t)) 2) (want ((prT 312).getD j 0) 2 1) 7 = decide ((bT ((prT 312).getD j 0) 2 t + 2 ^ (35 - t)) ^ 2 ≤ (prT 312).getD j 0 * 2 ^ (32 * 2)) := by rw [prT_312]; decide +kernel
theorem les3 (j : Nat) (hj : j < 64) (t : Nat) (ht : t < 36) : cmp (pw (bT ((prT 312).getD j 0) 3 t + 2 ^ (35 - t)) 3) (want ((prT 312).getD j 0) 3 2) 10 = decide ((bT ((prT 312).getD j 0) 3 t + 2 ^ (35 - t)) ^ 3 ≤ (prT 312).getD j 0 * 2 ^ (32 * 3)) := by
  obtain ⟨a, b, hab, hb⟩ : ∃ a b, j = 8 * a + b ∧ b < 8 := ⟨j / 8, j % 8, by omega, by omega⟩
  rcases (show a = 0 ∨ a = 1 ∨ a = 2 ∨ a = 3 ∨ a = 4 ∨ a = 5 ∨ a = 6 ∨ a = 7 by omega) with rfl | rfl | rfl | rfl | rfl | rfl | rfl | rfl
  · have h := les3_0 b hb t ht; rw [show 0 + b = j by omega] at h; exact h
  · have h := les3_1 b hb t ht; rw [show 8 + b = j by omega] at h; exact h
  · have h := les3_2 b hb t ht; rw [show 16 + b = j by omega] at h; exact h
  · have h := les3_3 b hb t ht; rw [show 24 + b = j by omega] at h; exact h
  · have h := les3_4 b hb t ht; rw [show 32 + b = j by omega] at h; exact h
  · have h := les3_5 b hb t ht; rw [show 40 + b = j by omega] at h; exact h
  · have h := les3_6 b hb t ht; rw [show 48 + b = j by omega] at h; exact h
  · have h := les3_7 b hb t ht; rw [show 56 + b = j by omega] at h; exact h
theorem mid_lt (p r t : Nat) (ht : t < 36) : bT p r t + 2 ^ (35 - t) < 68719476736 := by
  have h := bT_le p r t (by omega)
  have e : 2 ^ (36 - t) = 2 * 2 ^ (35 - t) := by rw [show 36 - t = (35 - t) + 1 by omega, Nat.pow_succ]; omega
  have := Nat.pow_pos (n := 35 - t) (show 0 < 2 by decide)
  omega
theorem frac3_any (w : World) (j : Nat) (hj : j < 64) :
    Calls Try.prog 45 #[.int .i64 ((prT 312).getD j 0 : Nat), .int .i64 3] w fun e w' => e = .returned (.int .i64 (ruleL.getD (8 + j) 0 : Nat)) ∧ Below w.heap.size w w' := by
  have h := frac_any w ((prT 312).getD j 0) 3 (fun W t ht => by
    have h1 := less_walk W _ ((prT 312).getD j 0) 3 (mid_lt ((prT 312).getD j 0) 3 t ht) (by have := pr_lt j hj; omega) (Or.inr rfl)
    rw [les3 j hj t ht] at h1
    exact h1)
  rw [frac3 j hj] at h
  exact h
theorem frac2_any (w : World) (j : Nat) (hj : j < 8) :
    Calls Try.prog 45 #[.int .i64 ((prT 312).getD j 0 : Nat), .int .i64 2] w fun e w' => e = .returned (.int .i64 (ruleL.getD j 0 : Nat)) ∧ Below w.heap.size w w' := by
  have h := frac_any w ((prT 312).getD j 0) 2 (fun W t ht => by
    have h1 := less_walk W _ ((prT 312).getD j 0) 2 (mid_lt ((prT 312).getD j 0) 2 t ht) (by have := pr_lt j (by omega); omega) (Or.inl rfl)
    rw [les2 j hj t ht] at h1
    exact h1)
  rw [frac2 j hj] at h
  exact h
end Go.Proofs.Ytkkildgdeagpeah.sfrac
