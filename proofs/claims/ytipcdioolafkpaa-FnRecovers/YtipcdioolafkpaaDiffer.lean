/- Two texts that part in one byte have other check sums: about lists and numbers alone. -/
import Derived.Test.YtipcdioolafkpaaCrcs
namespace Go.Proofs.Ytipcdioolafkpaa.differ
open Go.Proofs.Ytipcdioolafkpaa.crcs

theorem xor_top (a : Nat) (h : a < 2147483648) : 2147483648 ≤ a ^^^ 3988292384 := by
  have h1 : (a ^^^ 3988292384) / 2 ^ 31 = 1 := by
    rw [Nat.xor_div_two_pow, show a / 2 ^ 31 = 0 by omega, show 3988292384 / 2 ^ 31 = 1 by decide]
    decide
  omega
theorem xor_cancel {a b c : Nat} (h : a ^^^ c = b ^^^ c) : a = b := by
  have := congrArg (· ^^^ c) h
  simpa [Nat.xor_assoc] using this

/-- One step is not the same from two sums. -/
theorem stepN_inj {a b : Nat} (ha : a < 4294967296) (hb : b < 4294967296) (h : stepN a = stepN b) : a = b := by
  unfold stepN at h
  by_cases h1 : a % 2 = 1 <;> by_cases h2 : b % 2 = 1
  · rw [if_pos h1, if_pos h2] at h
    have := xor_cancel h
    omega
  · rw [if_pos h1, if_neg h2] at h
    have := xor_top (a / 2) (by omega)
    omega
  · rw [if_neg h1, if_pos h2] at h
    have := xor_top (b / 2) (by omega)
    omega
  · rw [if_neg h1, if_neg h2] at h
    omega
theorem stepTo_inj {a b : Nat} (ha : a < 4294967296) (hb : b < 4294967296) : ∀ k, stepTo a k = stepTo b k → a = b
  | 0, h => h
  | k + 1, h => stepTo_inj ha hb k (stepN_inj (stepTo_lt ha k) (stepTo_lt hb k) h)

/-- Two texts of one length that part at just one place. -/
theorem crcTo_ne {xs ys : List Int} (hx : ∀ x ∈ xs, 0 ≤ x ∧ x ≤ 255) (hy : ∀ x ∈ ys, 0 ≤ x ∧ x ≤ 255) (j : Nat) (hj : (xs.getD j 0) ≠ (ys.getD j 0)) (hs : ∀ i, i ≠ j → xs.getD i 0 = ys.getD i 0) : ∀ k, (k ≤ j → crcTo xs k = crcTo ys k) ∧ (j < k → crcTo xs k ≠ crcTo ys k)
  | 0 => ⟨fun _ => rfl, fun h => by omega⟩
  | k + 1 => by
    have ih := crcTo_ne hx hy j hj hs k
    have bx := byte_lt hx k
    have bby := byte_lt hy k
    have lx := crcTo_lt hx k
    have ly := crcTo_lt hy k
    refine ⟨fun h => ?_, fun h e => ?_⟩
    · show stepTo (crcTo xs k ^^^ (xs.getD k 0).toNat) 8 = stepTo (crcTo ys k ^^^ (ys.getD k 0).toNat) 8
      rw [ih.1 (by omega), hs k (by omega)]
    · have e1 := stepTo_inj (Nat.xor_lt_two_pow (n := 32) lx (by omega)) (Nat.xor_lt_two_pow (n := 32) ly (by omega)) 8 e
      by_cases hk : k = j
      · subst hk
        rw [ih.1 (Nat.le_refl _)] at e1
        rw [Nat.xor_comm, Nat.xor_comm (crcTo ys k)] at e1
        have e2 := xor_cancel e1
        have b1 := Go.Proofs.Ytipcdioolafkpaa.bytes.getD_bd hx k
        have b2 := Go.Proofs.Ytipcdioolafkpaa.bytes.getD_bd hy k
        omega
      · rw [hs k hk] at e1
        exact ih.2 (by omega) (xor_cancel e1)
theorem crcN_ne {xs ys : List Int} (hx : ∀ x ∈ xs, 0 ≤ x ∧ x ≤ 255) (hy : ∀ x ∈ ys, 0 ≤ x ∧ x ≤ 255) (hl : xs.length = ys.length) (j : Nat) (hjl : j < xs.length) (hj : (xs.getD j 0) ≠ (ys.getD j 0)) (hs : ∀ i, i ≠ j → xs.getD i 0 = ys.getD i 0) : crcN xs ≠ crcN ys := by
  intro e
  unfold crcN at e
  have := xor_cancel e
  rw [hl] at this
  exact (crcTo_ne hx hy j hj hs ys.length).2 (by omega) this
end Go.Proofs.Ytipcdioolafkpaa.differ
