/- Roots of primes, as the program reckons them. -/
import Derived.Test.YtkkildgdeagpeahRot
namespace Go.Proofs.Ytkkildgdeagpeah.root
open Go.ChangeShapes Go.WideShapes Go.ChangeAt Go.RowKit
open Go.Proofs.Ytkkildgdeagpeah.bytes Go.Proofs.Ytkkildgdeagpeah.rot
set_option linter.unusedVariables false

/-- What lies above the lowest 64 bits of a square, of a cube. -/
def sqH (n : Nat) : Nat := n * n / 18446744073709551616
def cuH (n : Nat) : Nat := n * n / 18446744073709551616 * n + n * n % 18446744073709551616 * n / 18446744073709551616

theorem sq_lt {n : Nat} (h : n < 68719476736) : sqH n < 256 := by
  unfold sqH
  have : n * n < 68719476736 * 68719476736 := Nat.mul_lt_mul'' h h
  omega

set_option maxHeartbeats 800000 in
theorem square_any (w : World) (n : Nat) (hn : n < 68719476736) :
    Calls Try.prog 50 #[.int .u64 n] w fun e w' => e = .returned (.int .u64 (sqH n)) ∧ w' = w := by
  have HM := hide (mul64 w n n (by omega) (by omega))
  go_enter Try.func50, Try.ntmps50
  go_wp2_with fail
  refine HM.out.mono ?_
  rintro e w' ⟨rfl, rfl⟩
  go_wp2
  go_ret
  exact ⟨rfl, rfl⟩

set_option maxHeartbeats 800000 in
theorem cube_any (w : World) (n : Nat) (hn : n < 68719476736) :
    Calls Try.prog 51 #[.int .u64 n] w fun e w' => e = .returned (.int .u64 (cuH n)) ∧ w' = w := by
  have hq : n * n / 18446744073709551616 < 256 := sq_lt hn
  have hlow : n * n % 18446744073709551616 < 18446744073709551616 := Nat.mod_lt _ (by decide)
  have HM := hide (mul64 w n n (by omega) (by omega))
  have HC : Hid (cuH n = n * n / 18446744073709551616 * n + n * n % 18446744073709551616 * n / 18446744073709551616) := hide rfl
  generalize n * n / 18446744073709551616 = H at hq HM HC
  generalize n * n % 18446744073709551616 = L at hlow HM HC
  have HM2 := hide (mul64 w L n (by omega) (by omega))
  have hc : L * n / 18446744073709551616 < 68719476736 := by
    have : L * n < 18446744073709551616 * 68719476736 := Nat.mul_lt_mul'' hlow hn
    omega
  generalize L * n / 18446744073709551616 = C at hc HM2 HC
  generalize L * n % 18446744073709551616 = D at HM2
  have hp : H * n < 256 * 68719476736 := Nat.mul_lt_mul'' hq hn
  go_enter Try.func51, Try.ntmps51
  go_wp2_with fail
  refine HM.out.mono ?_
  rintro e w' ⟨rfl, rfl⟩
  go_wp2_with fail
  refine HM2.out.mono ?_
  rintro e w' ⟨rfl, rfl⟩
  go_wp2
  go_ret
  refine ⟨?_, rfl⟩
  have e1 : (H : Int) * (n : Int) + (C : Int) = ((cuH n : Nat) : Int) := by rw [HC.out, Int.natCast_add, Int.natCast_mul]
  rw [← e1]
  rfl

theorem u64_or (a b : Nat) (ha : a < 68719476736) (hb : b < 68719476736) : bits .or .u64 (a : Int) (b : Int) = ((a ||| b : Nat) : Int) ∧ a ||| b < 68719476736 := by
  have hlt : a ||| b < 68719476736 := Nat.or_lt_two_pow (n := 36) ha hb
  have h1 : (BitVec.ofInt 64 (a : Int)).toNat = a := by rw [BitVec.toNat_ofInt]; omega
  have h2 : (BitVec.ofInt 64 (b : Int)).toNat = b := by rw [BitVec.toNat_ofInt]; omega
  have key : (BitVec.ofInt 64 (a : Int) ||| BitVec.ofInt 64 (b : Int)).toNat = a ||| b := by rw [BitVec.toNat_or, h1, h2]
  refine ⟨?_, hlt⟩
  show IntKind.u64.wrap ((BitVec.ofInt 64 (a : Int) ||| BitVec.ofInt 64 (b : Int)).toNat : Nat) = _
  rw [key, IntKind.wrap_u64]
  omega

/-- The root, bit by bit. -/
def rootTo (lim : Nat) (g : Nat → Nat) : Nat → Nat
  | 0 => 0
  | j + 1 => if g (rootTo lim g j ||| 34359738368 / 2 ^ j) < lim then rootTo lim g j ||| 34359738368 / 2 ^ j else rootTo lim g j
theorem rootTo_lt (lim : Nat) (g : Nat → Nat) (j : Nat) : rootTo lim g j < 68719476736 := by
  induction j with
  | zero => show 0 < 68719476736; omega
  | succ j ih =>
    show (if _ then _ else _) < _
    split
    · exact Nat.or_lt_two_pow (n := 36) ih (Nat.lt_of_le_of_lt (Nat.div_le_self _ _) (by decide))
    · exact ih
theorem bit_pos {j : Nat} (h : j < 36) : 0 < 34359738368 / 2 ^ j := Nat.div_pos (Nat.le_trans (Nat.pow_le_pow_right (by decide) (show j ≤ 35 by omega)) (by decide)) (Nat.pow_pos (by decide))
theorem bit_half (j : Nat) : 34359738368 / 2 ^ j / 2 = 34359738368 / 2 ^ (j + 1) := by rw [Nat.div_div_eq_div_mul, Nat.pow_succ]

set_option maxHeartbeats 1600000 in
theorem root_square (w : World) (lim : Nat) (hl : lim < 18446744073709551616) :
    Calls Try.prog 49 #[.int .u64 lim, .func (.func 50) #[] #[]] w fun e w' => e = .returned (.int .u32 ((rootTo lim sqH 36 % 4294967296 : Nat) : Int)) ∧ w' = w := by
  go_enter Try.func49, Try.ntmps49
  go_wp2
  go_loop [5, 6] (fun r b => ∃ j : Nat, j ≤ 36 ∧ r = .int .u64 (rootTo lim sqH j : Nat) ∧ b = .int .u64 (34359738368 / 2 ^ j : Nat)) (fun _ b => (intOf b).toNat)
  case atStart => exact ⟨0, by omega, rfl, rfl⟩
  case round =>
    obtain ⟨j, hj, rfl, rfl⟩ := hrel
    have hr := rootTo_lt lim sqH j
    by_cases hlt : j < 36
    · have hb := bit_pos hlt
      have HH := hide (bit_half j)
      have HS : Hid (rootTo lim sqH (j + 1) = if sqH (rootTo lim sqH j ||| 34359738368 / 2 ^ j) < lim then rootTo lim sqH j ||| 34359738368 / 2 ^ j else rootTo lim sqH j) := hide rfl
      have hb2 : 34359738368 / 2 ^ j < 68719476736 := Nat.lt_of_le_of_lt (Nat.div_le_self _ _) (by decide)
      generalize 34359738368 / 2 ^ j = B at hb hb2 HH HS ⊢
      generalize rootTo lim sqH j = R at hr HS ⊢
      obtain ⟨ho, hol⟩ := u64_or R B hr hb2
      have HC := hide (square_any w (R ||| B) hol)
      generalize R ||| B = O at ho hol HC HS
      generalize sqH O = G at HC HS
      go_wp2_with fail
      refine HC.out.mono ?_
      rintro e w' ⟨rfl, rfl⟩
      by_cases hG : G < lim
      · rw [if_pos hG] at HS
        go_wp2
        go_round
        case rel => exact ⟨j + 1, by omega, by rw [HS.out], by rw [← HH.out]; rfl⟩
        case measure => simp [intOf]; omega
      · rw [if_neg hG] at HS
        go_wp2
        go_round
        case rel => exact ⟨j + 1, by omega, by rw [HS.out], by rw [← HH.out]; rfl⟩
        case measure => simp [intOf]; omega
    · obtain rfl : j = 36 := by omega
      have h0 : 34359738368 / 2 ^ 36 = 0 := by decide
      rw [h0]
      go_wp2
      go_ret
      exact ⟨rfl, rfl⟩

set_option maxHeartbeats 1600000 in
theorem root_cube (w : World) (lim : Nat) (hl : lim < 18446744073709551616) :
    Calls Try.prog 49 #[.int .u64 lim, .func (.func 51) #[] #[]] w fun e w' => e = .returned (.int .u32 ((rootTo lim cuH 36 % 4294967296 : Nat) : Int)) ∧ w' = w := by
  go_enter Try.func49, Try.ntmps49
  go_wp2
  go_loop [5, 6] (fun r b => ∃ j : Nat, j ≤ 36 ∧ r = .int .u64 (rootTo lim cuH j : Nat) ∧ b = .int .u64 (34359738368 / 2 ^ j : Nat)) (fun _ b => (intOf b).toNat)
  case atStart => exact ⟨0, by omega, rfl, rfl⟩
  case round =>
    obtain ⟨j, hj, rfl, rfl⟩ := hrel
    have hr := rootTo_lt lim cuH j
    by_cases hlt : j < 36
    · have hb := bit_pos hlt
      have HH := hide (bit_half j)
      have HS : Hid (rootTo lim cuH (j + 1) = if cuH (rootTo lim cuH j ||| 34359738368 / 2 ^ j) < lim then rootTo lim cuH j ||| 34359738368 / 2 ^ j else rootTo lim cuH j) := hide rfl
      have hb2 : 34359738368 / 2 ^ j < 68719476736 := Nat.lt_of_le_of_lt (Nat.div_le_self _ _) (by decide)
      generalize 34359738368 / 2 ^ j = B at hb hb2 HH HS ⊢
      generalize rootTo lim cuH j = R at hr HS ⊢
      obtain ⟨ho, hol⟩ := u64_or R B hr hb2
      have HC := hide (cube_any w (R ||| B) hol)
      generalize R ||| B = O at ho hol HC HS
      generalize cuH O = G at HC HS
      go_wp2_with fail
      refine HC.out.mono ?_
      rintro e w' ⟨rfl, rfl⟩
      by_cases hG : G < lim
      · rw [if_pos hG] at HS
        go_wp2
        go_round
        case rel => exact ⟨j + 1, by omega, by rw [HS.out], by rw [← HH.out]; rfl⟩
        case measure => simp [intOf]; omega
      · rw [if_neg hG] at HS
        go_wp2
        go_round
        case rel => exact ⟨j + 1, by omega, by rw [HS.out], by rw [← HH.out]; rfl⟩
        case measure => simp [intOf]; omega
    · obtain rfl : j = 36 := by omega
      have h0 : 34359738368 / 2 ^ 36 = 0 := by decide
      rw [h0]
      go_wp2
      go_ret
      exact ⟨rfl, rfl⟩
end Go.Proofs.Ytkkildgdeagpeah.root
