/- Turned words, as the specification turns them. -/
import Derived.Test.YtkkildgdeagpeahRot
namespace Go.Proofs.Ytkkildgdeagpeah.turn
open Go.ChangeShapes Go.WideShapes Go.ChangeAt Go.RowKit
open Go.Proofs.Ytkkildgdeagpeah.bytes Go.Proofs.Ytkkildgdeagpeah.rot
set_option linter.unusedVariables false

theorem i64_or (a b : Nat) (ha : a < 4611686018427387904) (hb : b < 4611686018427387904) : bits .or .i64 (a : Int) (b : Int) = ((a ||| b : Nat) : Int) ∧ a ||| b < 4611686018427387904 := by
  have hlt : a ||| b < 4611686018427387904 := Nat.or_lt_two_pow (n := 62) ha hb
  have h1 : (BitVec.ofInt 64 (a : Int)).toNat = a := by rw [BitVec.toNat_ofInt]; omega
  have h2 : (BitVec.ofInt 64 (b : Int)).toNat = b := by rw [BitVec.toNat_ofInt]; omega
  have key : (BitVec.ofInt 64 (a : Int) ||| BitVec.ofInt 64 (b : Int)).toNat = a ||| b := by rw [BitVec.toNat_or, h1, h2]
  refine ⟨?_, hlt⟩
  show IntKind.i64.wrap ((BitVec.ofInt 64 (a : Int) ||| BitVec.ofInt 64 (b : Int)).toNat : Nat) = _
  rw [key, IntKind.wrap_i64]
  omega
theorem i64_and (a b : Nat) (ha : a < 4611686018427387904) (hb : b < 4611686018427387904) : bits .and .i64 (a : Int) (b : Int) = ((a &&& b : Nat) : Int) := by
  have hlt : a &&& b < 4611686018427387904 := Nat.and_lt_two_pow (n := 62) a hb
  have h1 : (BitVec.ofInt 64 (a : Int)).toNat = a := by rw [BitVec.toNat_ofInt]; omega
  have h2 : (BitVec.ofInt 64 (b : Int)).toNat = b := by rw [BitVec.toNat_ofInt]; omega
  have key : (BitVec.ofInt 64 (a : Int) &&& BitVec.ofInt 64 (b : Int)).toNat = a &&& b := by rw [BitVec.toNat_and, h1, h2]
  show IntKind.i64.wrap ((BitVec.ofInt 64 (a : Int) &&& BitVec.ofInt 64 (b : Int)).toNat : Nat) = _
  rw [key, IntKind.wrap_i64]
  omega
theorem i64_xor (a b : Nat) (ha : a < 4611686018427387904) (hb : b < 4611686018427387904) : bits .xor .i64 (a : Int) (b : Int) = ((a ^^^ b : Nat) : Int) := by
  have hlt : a ^^^ b < 4611686018427387904 := Nat.xor_lt_two_pow (n := 62) ha hb
  have h1 : (BitVec.ofInt 64 (a : Int)).toNat = a := by rw [BitVec.toNat_ofInt]; omega
  have h2 : (BitVec.ofInt 64 (b : Int)).toNat = b := by rw [BitVec.toNat_ofInt]; omega
  have key : (BitVec.ofInt 64 (a : Int) ^^^ BitVec.ofInt 64 (b : Int)).toNat = a ^^^ b := by rw [BitVec.toNat_xor, h1, h2]
  show IntKind.i64.wrap ((BitVec.ofInt 64 (a : Int) ^^^ BitVec.ofInt 64 (b : Int)).toNat : Nat) = _
  rw [key, IntKind.wrap_i64]
  omega
theorem i64_mask (a : Nat) (ha : a < 4611686018427387904) : bits .and .i64 (a : Int) 4294967295 = ((a % 4294967296 : Nat) : Int) := by
  have h := turn.i64_and a 4294967295 ha (by decide)
  rw [show (4294967295 : Nat) = 2 ^ 32 - 1 by decide, Nat.and_two_pow_sub_one_eq_mod] at h
  exact h
theorem turn_bits (x : Nat) (hx : x < 4294967296) (n k : Nat) (hk : 32 - n = k) (hn : 2 ≤ n) (hn2 : n ≤ 32) : bits .and .i64 (bits .or .i64 ((x : Int) / 2 ^ n) ((x : Int) * 2 ^ k)) 4294967295 = ((rotr x n : Nat) : Int) := by
  have e1 : ((x : Int) * 2 ^ k) = ((x * 2 ^ k : Nat) : Int) := by rw [Int.natCast_mul, Int.natCast_pow]; rfl
  have e2 : (x : Int) / 2 ^ n = ((x / 2 ^ n : Nat) : Int) := by rw [Int.natCast_ediv, Int.natCast_pow]; rfl
  have l1 : x / 2 ^ n < 4294967296 := Nat.lt_of_le_of_lt (Nat.div_le_self _ _) hx
  have l2 : x * 2 ^ k < 4611686018427387904 := by
    have h1 : 2 ^ k ≤ 2 ^ 30 := Nat.pow_le_pow_right (by decide) (by omega)
    have h2 : x * 2 ^ k ≤ x * 2 ^ 30 := Nat.mul_le_mul_left x h1
    omega
  rw [e1, e2, (turn.i64_or (x / 2 ^ n) (x * 2 ^ k) (by omega) l2).1, i64_mask _ (turn.i64_or (x / 2 ^ n) (x * 2 ^ k) (by omega) l2).2]
  unfold rotr
  rw [hk, show (4294967296 : Nat) = 2 ^ 32 by decide, Nat.or_mod_two_pow, Nat.mod_eq_of_lt (show x / 2 ^ n < 2 ^ 32 from l1), Nat.or_comm]

theorem turn2 (w : World) (x : Nat) (hx : x < 4294967296) :
    Calls Try.prog 57 #[.int .i64 x, .int .i64 2] w fun e w' => e = .returned (.int .i64 (rotr x 2 : Nat)) ∧ w' = w := by
  have HO : Hid (bits .and .i64 (bits .or .i64 ((x : Int) / 4) ((x : Int) * 1073741824)) 4294967295 = ((rotr x 2 : Nat) : Int)) := by
    have h := turn_bits x hx 2 30 (by decide) (by decide) (by decide)
    rw [show (2 : Int) ^ 30 = 1073741824 by decide, show (2 : Int) ^ 2 = 4 by decide] at h
    exact hide h
  go_enter Try.func57, Try.ntmps57
  go_wp2
  go_ret
  refine ⟨?_, rfl⟩
  rw [← HO.out]
  rfl

theorem turn6 (w : World) (x : Nat) (hx : x < 4294967296) :
    Calls Try.prog 57 #[.int .i64 x, .int .i64 6] w fun e w' => e = .returned (.int .i64 (rotr x 6 : Nat)) ∧ w' = w := by
  have HO : Hid (bits .and .i64 (bits .or .i64 ((x : Int) / 64) ((x : Int) * 67108864)) 4294967295 = ((rotr x 6 : Nat) : Int)) := by
    have h := turn_bits x hx 6 26 (by decide) (by decide) (by decide)
    rw [show (2 : Int) ^ 26 = 67108864 by decide, show (2 : Int) ^ 6 = 64 by decide] at h
    exact hide h
  go_enter Try.func57, Try.ntmps57
  go_wp2
  go_ret
  refine ⟨?_, rfl⟩
  rw [← HO.out]
  rfl

theorem turn7 (w : World) (x : Nat) (hx : x < 4294967296) :
    Calls Try.prog 57 #[.int .i64 x, .int .i64 7] w fun e w' => e = .returned (.int .i64 (rotr x 7 : Nat)) ∧ w' = w := by
  have HO : Hid (bits .and .i64 (bits .or .i64 ((x : Int) / 128) ((x : Int) * 33554432)) 4294967295 = ((rotr x 7 : Nat) : Int)) := by
    have h := turn_bits x hx 7 25 (by decide) (by decide) (by decide)
    rw [show (2 : Int) ^ 25 = 33554432 by decide, show (2 : Int) ^ 7 = 128 by decide] at h
    exact hide h
  go_enter Try.func57, Try.ntmps57
  go_wp2
  go_ret
  refine ⟨?_, rfl⟩
  rw [← HO.out]
  rfl

theorem turn11 (w : World) (x : Nat) (hx : x < 4294967296) :
    Calls Try.prog 57 #[.int .i64 x, .int .i64 11] w fun e w' => e = .returned (.int .i64 (rotr x 11 : Nat)) ∧ w' = w := by
  have HO : Hid (bits .and .i64 (bits .or .i64 ((x : Int) / 2048) ((x : Int) * 2097152)) 4294967295 = ((rotr x 11 : Nat) : Int)) := by
    have h := turn_bits x hx 11 21 (by decide) (by decide) (by decide)
    rw [show (2 : Int) ^ 21 = 2097152 by decide, show (2 : Int) ^ 11 = 2048 by decide] at h
    exact hide h
  go_enter Try.func57, Try.ntmps57
  go_wp2
  go_ret
  refine ⟨?_, rfl⟩
  rw [← HO.out]
  rfl

theorem turn13 (w : World) (x : Nat) (hx : x < 4294967296) :
    Calls Try.prog 57 #[.int .i64 x, .int .i64 13] w fun e w' => e = .returned (.int .i64 (rotr x 13 : Nat)) ∧ w' = w := by
  have HO : Hid (bits .and .i64 (bits .or .i64 ((x : Int) / 8192) ((x : Int) * 524288)) 4294967295 = ((rotr x 13 : Nat) : Int)) := by
    have h := turn_bits x hx 13 19 (by decide) (by decide) (by decide)
    rw [show (2 : Int) ^ 19 = 524288 by decide, show (2 : Int) ^ 13 = 8192 by decide] at h
    exact hide h
  go_enter Try.func57, Try.ntmps57
  go_wp2
  go_ret
  refine ⟨?_, rfl⟩
  rw [← HO.out]
  rfl

theorem turn17 (w : World) (x : Nat) (hx : x < 4294967296) :
    Calls Try.prog 57 #[.int .i64 x, .int .i64 17] w fun e w' => e = .returned (.int .i64 (rotr x 17 : Nat)) ∧ w' = w := by
  have HO : Hid (bits .and .i64 (bits .or .i64 ((x : Int) / 131072) ((x : Int) * 32768)) 4294967295 = ((rotr x 17 : Nat) : Int)) := by
    have h := turn_bits x hx 17 15 (by decide) (by decide) (by decide)
    rw [show (2 : Int) ^ 15 = 32768 by decide, show (2 : Int) ^ 17 = 131072 by decide] at h
    exact hide h
  go_enter Try.func57, Try.ntmps57
  go_wp2
  go_ret
  refine ⟨?_, rfl⟩
  rw [← HO.out]
  rfl

theorem turn18 (w : World) (x : Nat) (hx : x < 4294967296) :
    Calls Try.prog 57 #[.int .i64 x, .int .i64 18] w fun e w' => e = .returned (.int .i64 (rotr x 18 : Nat)) ∧ w' = w := by
  have HO : Hid (bits .and .i64 (bits .or .i64 ((x : Int) / 262144) ((x : Int) * 16384)) 4294967295 = ((rotr x 18 : Nat) : Int)) := by
    have h := turn_bits x hx 18 14 (by decide) (by decide) (by decide)
    rw [show (2 : Int) ^ 14 = 16384 by decide, show (2 : Int) ^ 18 = 262144 by decide] at h
    exact hide h
  go_enter Try.func57, Try.ntmps57
  go_wp2
  go_ret
  refine ⟨?_, rfl⟩
  rw [← HO.out]
  rfl

theorem turn19 (w : World) (x : Nat) (hx : x < 4294967296) :
    Calls Try.prog 57 #[.int .i64 x, .int .i64 19] w fun e w' => e = .returned (.int .i64 (rotr x 19 : Nat)) ∧ w' = w := by
  have HO : Hid (bits .and .i64 (bits .or .i64 ((x : Int) / 524288) ((x : Int) * 8192)) 4294967295 = ((rotr x 19 : Nat) : Int)) := by
    have h := turn_bits x hx 19 13 (by decide) (by decide) (by decide)
    rw [show (2 : Int) ^ 13 = 8192 by decide, show (2 : Int) ^ 19 = 524288 by decide] at h
    exact hide h
  go_enter Try.func57, Try.ntmps57
  go_wp2
  go_ret
  refine ⟨?_, rfl⟩
  rw [← HO.out]
  rfl

theorem turn22 (w : World) (x : Nat) (hx : x < 4294967296) :
    Calls Try.prog 57 #[.int .i64 x, .int .i64 22] w fun e w' => e = .returned (.int .i64 (rotr x 22 : Nat)) ∧ w' = w := by
  have HO : Hid (bits .and .i64 (bits .or .i64 ((x : Int) / 4194304) ((x : Int) * 1024)) 4294967295 = ((rotr x 22 : Nat) : Int)) := by
    have h := turn_bits x hx 22 10 (by decide) (by decide) (by decide)
    rw [show (2 : Int) ^ 10 = 1024 by decide, show (2 : Int) ^ 22 = 4194304 by decide] at h
    exact hide h
  go_enter Try.func57, Try.ntmps57
  go_wp2
  go_ret
  refine ⟨?_, rfl⟩
  rw [← HO.out]
  rfl

theorem turn25 (w : World) (x : Nat) (hx : x < 4294967296) :
    Calls Try.prog 57 #[.int .i64 x, .int .i64 25] w fun e w' => e = .returned (.int .i64 (rotr x 25 : Nat)) ∧ w' = w := by
  have HO : Hid (bits .and .i64 (bits .or .i64 ((x : Int) / 33554432) ((x : Int) * 128)) 4294967295 = ((rotr x 25 : Nat) : Int)) := by
    have h := turn_bits x hx 25 7 (by decide) (by decide) (by decide)
    rw [show (2 : Int) ^ 7 = 128 by decide, show (2 : Int) ^ 25 = 33554432 by decide] at h
    exact hide h
  go_enter Try.func57, Try.ntmps57
  go_wp2
  go_ret
  refine ⟨?_, rfl⟩
  rw [← HO.out]
  rfl

end Go.Proofs.Ytkkildgdeagpeah.turn
