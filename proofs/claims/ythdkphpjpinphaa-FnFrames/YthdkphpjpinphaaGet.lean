/- Contracts of the functions that read a number's bytes. -/
import Derived.Test.YthdkphpjpinphaaBytes
namespace Go.Proofs.Ythdkphpjpinphaa.get
open Go.ChangeShapes Go.WideShapes Go.ChangeAt Go.RowKit
open Go.Proofs.Ythdkphpjpinphaa.bytes
set_option linter.unusedVariables false

/-- A number off its bytes: fuel, bytes taken so far, what they make, what is left: the number, how many bytes, 0 whole, 1 cut, 2 wrong. -/
def getR : Nat → Nat → Int → List Int → Int × Nat × Int
  | 0, _, _, _ => (0, 0, 2)
  | _ + 1, _, _, [] => (0, 0, 1)
  | f + 1, k, n, c :: r => if c < 128 then (if 0 < k ∧ c = 0 then (0, 0, 2) else (n + c % 128 * 128 ^ k, k + 1, 0)) else getR f (k + 1) (n + c % 128 * 128 ^ k) r

theorem getR_more {f k : Nat} {n c : Int} {r : List Int} (h : 128 ≤ c) : getR (f + 1) k n (c :: r) = getR f (k + 1) (n + c % 128 * 128 ^ k) r := by
  rw [getR, if_neg (by omega)]
theorem getR_zero {f k : Nat} {n c : Int} {r : List Int} (h : c = 0) (hk : 0 < k) : getR (f + 1) k n (c :: r) = (0, 0, 2) := by
  rw [getR, if_pos (by omega), if_pos ⟨hk, h⟩]
theorem getR_last {f k : Nat} {n c : Int} {r : List Int} (h : c < 128) (hk : ¬ (0 < k ∧ c = 0)) : getR (f + 1) k n (c :: r) = (n + c % 128 * 128 ^ k, k + 1, 0) := by
  rw [getR, if_pos h, if_neg hk]

theorem drop_at {xs : List Int} {j : Nat} (h : j < xs.length) : xs.drop j = xs.getD j 0 :: xs.drop (j + 1) := by
  rw [List.drop_eq_getElem_cons h]; simp [List.getD_eq_getElem?_getD, h]

/-- What the number's value, the place behind it and the state are. -/
def gotN (xs : List Int) (at_ : Nat) : Int × Nat × Int := getR 9 0 0 (xs.drop at_)

theorem ret_three {a b c a' b' c' : Int} (h1 : a = a') (h2 : b = b') (h3 : c = c') : Ending.returned (.tuple #[.int .i64 a, .int .i64 b, .int .i64 c]) = .returned (.tuple #[.int .i64 a', .int .i64 b', .int .i64 c']) := by rw [h1, h2, h3]

def behind (at_ : Nat) (r : Int × Nat × Int) : Int := if r.2.2 = 0 then (at_ : Int) + r.2.1 else 0

theorem step_bd {k : Nat} {N c U : Int} (hk : k < 9) (h0 : 0 ≤ N) (hN : N < 128 ^ k) (hU : U = 128 ^ (min k 8)) :
    0 ≤ c % 128 * U ∧ N + c % 128 * U ≤ 9223372036854775807 ∧ 1 ≤ U ∧ U ≤ 72057594037927936 ∧ N + c % 128 * 128 ^ k < 128 ^ (k + 1) ∧ N + c % 128 * U = N + c % 128 * 128 ^ k := by
  have hm : min k 8 = k := by omega
  rw [hm] at hU
  subst hU
  have hc0 : 0 ≤ c % 128 := by omega
  have hc1 : c % 128 ≤ 127 := by omega
  have hp : (0 : Int) < 128 ^ k := Int.pow_pos (by decide)
  have hmul : c % 128 * 128 ^ k ≤ 127 * 128 ^ k := Int.mul_le_mul_of_nonneg_right hc1 (by omega)
  have hnn : 0 ≤ c % 128 * 128 ^ k := Int.mul_nonneg hc0 (by omega)
  have hs : (128 : Int) ^ (k + 1) = 128 ^ k * 128 := Int.pow_succ _ _
  have hb : (128 : Int) ^ k ≤ 128 ^ 8 := by
    have := Nat.pow_le_pow_right (show 0 < 128 by decide) (show k ≤ 8 by omega)
    exact_mod_cast this
  have h8 : (128 : Int) ^ 8 = 72057594037927936 := by decide
  refine ⟨hnn, by omega, by omega, by omega, by omega, rfl⟩

theorem pow_next {k : Nat} {U : Int} (hk : k < 8) (hU : U = 128 ^ (min k 8)) : U * 128 = 128 ^ (min (k + 1) 8) := by
  rw [hU, show min k 8 = k by omega, show min (k + 1) 8 = k + 1 by omega, Int.pow_succ]
theorem pow_bd {k : Nat} {U : Int} (hk : k < 8) (hU : U = 128 ^ (min k 8)) : U * 128 ≤ 72057594037927936 := by
  rw [pow_next hk hU, show min (k + 1) 8 = k + 1 by omega]
  have hb : (128 : Int) ^ (k + 1) ≤ 128 ^ 8 := by
    have := Nat.pow_le_pow_right (show 0 < 128 by decide) (show k + 1 ≤ 8 by omega)
    exact_mod_cast this
  have h8 : (128 : Int) ^ 8 = 72057594037927936 := by decide
  omega
theorem pow_last {k : Nat} {U : Int} (hk : k = 8) (hU : U = 128 ^ (min k 8)) : U = 128 ^ (min (k + 1) 8) := by
  rw [hU, hk]; rfl

end Go.Proofs.Ythdkphpjpinphaa.get
