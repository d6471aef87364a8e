/- Contracts of the functions that read a number's bytes. -/
import Derived.Test.YtdahnooehjdcgaaBytes
namespace Go.Proofs.Ytdahnooehjdcgaa.get
open Go.ChangeShapes Go.WideShapes Go.ChangeAt Go.RowKit
open Go.Proofs.Ytdahnooehjdcgaa.bytes
set_option linter.unusedVariables false

/-- A number off its bytes: fuel, bytes taken so far, what they make, what is left: the number, how many bytes, 0 whole, 1 cut, 2 wrong. -/
def getR : Nat → Nat → Int → List Int → Int × Nat × Int
  | 0, _, _, _ => (0, 0, 2)
  | _ + 1, _, _, [] => (0, 0, 1)
  | f + 1, k, n, c :: r => if c < 128 then (if 0 < k ∧ c = 0 then (0, 0, 2) else (n + c % 128 * 128 ^ k, k + 1, 0)) else getR f (k + 1) (n + c % 128 * 128 ^ k) r

theorem getR_more {f k : Nat} {n c : Int} {r : List Int} (h : 128 ≤ c) : getR (f + 1) k n (c :: r) = getR f (k + 1) (n + c % 128 * 128 ^ k) r := by
  rw [getR, if_neg (by omega)]
theorem getR_zero {f k : Nat} {n c : Int} {r : List Int} (h : c = 0) (hk : 0 < k) : getR (f + 1) k n (c :: r) = (0, 0, 2) := by
  rw [getR, if_pos (by omega), if_pos ⟨hk, h⟩]
theorem getR_last {f k : Nat} {n c : Int} {r : List Int} (h : c < 128) (hk : ¬ (0 < k ∧ c = 0)) : getR (f + 1) k n (c :: r) = (n + c % 128 * 128 ^ k, k + 1, 0) := by
  rw [getR, if_pos h, if_neg hk]

theorem drop_at {xs : List Int} {j : Nat} (h : j < xs.length) : xs.drop j = xs.getD j 0 :: xs.drop (j + 1) := by
  rw [List.drop_eq_getElem_cons h]; simp [List.getD_eq_getElem?_getD, h]

/-- What the number's value, the place behind it and the state are. -/
def gotN (xs : List Int) (at_ : Nat) : Int × Nat × Int := getR 9 0 0 (xs.drop at_)

theorem ret_three {a b c a' b' c' : Int} (h1 : a = a') (h2 : b = b') (h3 : c = c') : Ending.returned (.tuple #[.int .i64 a, .int .i64 b, .int .i64 c]) = .returned (.tuple #[.int .i64 a', .int .i64 b', .int .i64 c']) := by rw [h1, h2, h3]

def behind (at_ : Nat) (r : Int × Nat × Int) : Int := if r.2.2 = 0 then (at_ : Int) + r.2.1 else 0

theorem step_bd {k : Nat} {N c U : Int} (hk : k < 9) (h0 : 0 ≤ N) (hN : N < 128 ^ k) (hU : U = 128 ^ (min k 8)) :
    0 ≤ c % 128 * U ∧ N + c % 128 * U ≤ 9223372036854775807 ∧ 1 ≤ U ∧ U ≤ 72057594037927936 ∧ N + c % 128 * 128 ^ k < 128 ^ (k + 1) ∧ N + c % 128 * U = N + c % 128 * 128 ^ k := by
  have hm : min k 8 = k := by omega
  rw [hm] at hU
  subst hU
  have hc0 : 0 ≤ c % 128 := by omega
  have hc1 : c % 128 ≤ 127 := by omega
  have hp : (0 : Int) < 128 ^ k := Int.pow_pos (by decide)
  have hmul : c % 128 * 128 ^ k ≤ 127 * 128 ^ k := Int.mul_le_mul_of_nonneg_right hc1 (by omega)
  have hnn : 0 ≤ c % 128 * 128 ^ k := Int.mul_nonneg hc0 (by omega)
  have hs : (128 : Int) ^ (k + 1) = 128 ^ k * 128 := Int.pow_succ _ _
  have hb : (128 : Int) ^ k ≤ 128 ^ 8 := by
    have := Nat.pow_le_pow_right (show 0 < 128 by decide) (show k ≤ 8 by omega)
    exact_mod_cast this
  have h8 : (128 : Int) ^ 8 = 72057594037927936 := by decide
  refine ⟨hnn, by omega, by omega, by omega, by omega, rfl⟩

theorem pow_next {k : Nat} {U : Int} (hk : k < 8) (hU : U = 128 ^ (min k 8)) : U * 128 = 128 ^ (min (k + 1) 8) := by
  rw [hU, show min k 8 = k by omega, show min (k + 1) 8 = k + 1 by omega, Int.pow_succ]
theorem pow_bd {k : Nat} {U : Int} (hk : k < 8) (hU : U = 128 ^ (min k 8)) : U * 128 ≤ 72057594037927936 := by
  rw [pow_next hk hU, show min (k + 1) 8 = k + 1 by omega]
  have hb : (128 : Int) ^ (k + 1) ≤ 128 ^ 8 := by
    have := Nat.pow_le_pow_right (show 0 < 128 by decide) (show k + 1 ≤ 8 by omega)
    exact_mod_cast this
  have h8 : (128 : Int) ^ 8 = 72057594037927936 := by decide
  omega
theorem pow_last {k : Nat} {U : Int} (hk : k = 8) (hU : U = 128 ^ (min k 8)) : U = 128 ^ (min (k + 1) 8) := by
  rw [hU, hk]; rfl

set_option maxHeartbeats 400000 in
theorem l01Get_any (w : World) (b : Value) (xs : List Int) (at_ : Nat) (hat : at_ ≤ xs.length) (hb : Rd w b xs) (hl : xs.length ≤ 65536) :
    Calls Try.prog 32 #[b, .int .i64 at_] w fun e w' => e = .returned (.tuple #[.int .i64 (gotN xs at_).1, .int .i64 (behind at_ (gotN xs at_)), .int .i64 (gotN xs at_).2.2]) ∧ w' = w := by
  obtain ⟨ao, ca, rfl, ha1, ha2, hx, ha3⟩ := hb
  unfold maxLen at ha2
  go_enter Try.func32, Try.ntmps32
  go_wp2
  go_loop [7, 8, 9] (fun n u i => ∃ (k : Nat) (N U : Int), k ≤ 9 ∧ i = .int .i64 k ∧ n = .int .i64 N ∧ u = .int .i64 U ∧ 0 ≤ N ∧ Hid (U = 128 ^ (min k 8) ∧ (N : Int) < 128 ^ k ∧ gotN xs at_ = getR (9 - k) k N (xs.drop (at_ + k)))) (fun _ _ i => 9 - (intOf i).toNat)
  case atStart => exact ⟨0, 0, 1, by omega, rfl, rfl, rfl, by omega, hide ⟨by simp, by simp, by simp [gotN]⟩⟩
  case round =>
    obtain ⟨k, N, U, hk, rfl, rfl, rfl, hN, HR⟩ := hrel
    by_cases hk9 : k < 9
    · by_cases hlt : at_ + k < xs.length
      · obtain ⟨ab, aoff, rfl, hca⟩ := ha3 (by omega)
        have hc := hca (at_ + k) hlt
        have hcb := getD_bd hx (at_ + k)
        have hdrop := drop_at hlt
        generalize xs.getD (at_ + k) 0 = c at hc hcb hdrop
        have HD : Hid (xs.drop (at_ + k) = c :: xs.drop (at_ + k + 1)) := hdrop
        clear hdrop hca ha3
        obtain ⟨hp0, hp1, hU1, hU2, hlt', heq⟩ := step_bd (c := c) hk9 hN HR.out.2.1 HR.out.1
        have HS : Hid (N + c % 128 * U < 128 ^ (k + 1) ∧ N + c % 128 * U = N + c % 128 * 128 ^ k) := ⟨by rw [heq]; exact hlt', heq⟩
        clear hlt' heq
        by_cases h128 : 128 ≤ c
        · have HG : Hid (gotN xs at_ = getR (9 - (k + 1)) (k + 1) (N + c % 128 * U) (xs.drop (at_ + (k + 1)))) := by
            have h1 := HR.out.2.2
            rw [HD.out, show 9 - k = (9 - (k + 1)) + 1 by omega, getR_more h128, ← HS.out.2] at h1
            exact hide h1
          by_cases hk8 : k < 8
          · have hub := pow_bd hk8 HR.out.1
            go_wp2
            go_round
            case rel => exact ⟨k + 1, _, _, by omega, by go_num, rfl, rfl, by omega, hide ⟨pow_next hk8 HR.out.1, HS.out.1, HG.out⟩⟩
            case measure => simp [intOf]; omega
          · go_wp2
            go_round
            case rel => exact ⟨k + 1, _, _, by omega, by go_num, rfl, rfl, by omega, hide ⟨pow_last (by omega) HR.out.1, HS.out.1, HG.out⟩⟩
            case measure => simp [intOf]; omega
        · by_cases hz : 0 < k ∧ c = 0
          · obtain ⟨hk0, hz⟩ := hz
            have HG : Hid (gotN xs at_ = (0, 0, 2)) := by
              have h1 := HR.out.2.2
              rw [HD.out, show 9 - k = (9 - (k + 1)) + 1 by omega, getR_zero hz hk0] at h1
              exact hide h1
            have hk0' : (0 : Int) < k := by omega
            subst hz
            go_wp2
            go_ret3
            exact ⟨by rw [HG.out]; exact ret_three rfl (by simp [behind]) rfl, rfl⟩
          · have HG : Hid (gotN xs at_ = (N + c % 128 * U, k + 1, 0)) := by
              have h1 := HR.out.2.2
              rw [HD.out, show 9 - k = (9 - (k + 1)) + 1 by omega, getR_last (by omega) hz, ← HS.out.2] at h1
              exact hide h1
            by_cases hk0 : (0 : Int) < k
            · have hcz : (c == 0) = false := beq_eq_false_iff_ne.2 (by omega)
              go_wp2
              go_ret3
              exact ⟨by rw [HG.out]; exact ret_three rfl (by simp [behind]; omega) rfl, rfl⟩
            · go_wp2
              go_ret3
              exact ⟨by rw [HG.out]; exact ret_three rfl (by simp [behind]; omega) rfl, rfl⟩
      · have HG : Hid (gotN xs at_ = (0, 0, 1)) := by
          have h1 := HR.out.2.2
          rw [List.drop_eq_nil_of_le (by omega), show 9 - k = (9 - (k + 1)) + 1 by omega] at h1
          exact hide h1
        go_wp2
        go_ret3
        exact ⟨by rw [HG.out]; exact ret_three rfl (by simp [behind]) rfl, rfl⟩
    · have HG : Hid (gotN xs at_ = (0, 0, 2)) := by
        have h1 := HR.out.2.2
        rw [show 9 - k = 0 by omega] at h1
        exact hide h1
      go_wp2
      go_ret3
      exact ⟨by rw [HG.out]; exact ret_three rfl (by simp [behind]) rfl, rfl⟩
end Go.Proofs.Ytdahnooehjdcgaa.get
