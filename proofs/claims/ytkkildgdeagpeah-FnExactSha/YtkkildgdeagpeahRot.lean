/- Turned words, and products of two words. -/
import Derived.Test.YtkkildgdeagpeahBytes
import Derived.Laws.MathBits
namespace Go.Proofs.Ytkkildgdeagpeah.rot
open Go.ChangeShapes Go.WideShapes Go.ChangeAt Go.RowKit
open Go.Proofs.Ytkkildgdeagpeah.bytes
set_option linter.unusedVariables false

/-- A word of 32 bits turned right. -/
def rotr (x n : Nat) : Nat := (x * 2 ^ (32 - n) % 4294967296) ||| (x / 2 ^ n)

theorem wrap_u32 (a : Nat) (h : a < 4294967296) : IntKind.u32.wrap (a : Int) = (a : Int) := by rw [IntKind.wrap_u32]; omega
theorem u32_or (a b : Nat) (ha : a < 4294967296) (hb : b < 4294967296) : bits .or .u32 (a : Int) (b : Int) = ((a ||| b : Nat) : Int) := by
  have hlt : a ||| b < 4294967296 := Nat.or_lt_two_pow (n := 32) ha hb
  have h1 : (BitVec.ofInt 32 (a : Int)).toNat = a := by rw [BitVec.toNat_ofInt]; omega
  have h2 : (BitVec.ofInt 32 (b : Int)).toNat = b := by rw [BitVec.toNat_ofInt]; omega
  have key : (BitVec.ofInt 32 (a : Int) ||| BitVec.ofInt 32 (b : Int)).toNat = a ||| b := by rw [BitVec.toNat_or, h1, h2]
  show IntKind.u32.wrap ((BitVec.ofInt 32 (a : Int) ||| BitVec.ofInt 32 (b : Int)).toNat : Nat) = _
  rw [key, wrap_u32 _ hlt]
theorem u32_xor (a b : Nat) (ha : a < 4294967296) (hb : b < 4294967296) : bits .xor .u32 (a : Int) (b : Int) = ((a ^^^ b : Nat) : Int) := by
  have hlt : a ^^^ b < 4294967296 := Nat.xor_lt_two_pow (n := 32) ha hb
  have h1 : (BitVec.ofInt 32 (a : Int)).toNat = a := by rw [BitVec.toNat_ofInt]; omega
  have h2 : (BitVec.ofInt 32 (b : Int)).toNat = b := by rw [BitVec.toNat_ofInt]; omega
  have key : (BitVec.ofInt 32 (a : Int) ^^^ BitVec.ofInt 32 (b : Int)).toNat = a ^^^ b := by rw [BitVec.toNat_xor, h1, h2]
  show IntKind.u32.wrap ((BitVec.ofInt 32 (a : Int) ^^^ BitVec.ofInt 32 (b : Int)).toNat : Nat) = _
  rw [key, wrap_u32 _ hlt]
theorem u32_and (a b : Nat) (ha : a < 4294967296) (hb : b < 4294967296) : bits .and .u32 (a : Int) (b : Int) = ((a &&& b : Nat) : Int) := by
  have hlt : a &&& b < 4294967296 := Nat.and_lt_two_pow (n := 32) a hb
  have h1 : (BitVec.ofInt 32 (a : Int)).toNat = a := by rw [BitVec.toNat_ofInt]; omega
  have h2 : (BitVec.ofInt 32 (b : Int)).toNat = b := by rw [BitVec.toNat_ofInt]; omega
  have key : (BitVec.ofInt 32 (a : Int) &&& BitVec.ofInt 32 (b : Int)).toNat = a &&& b := by rw [BitVec.toNat_and, h1, h2]
  show IntKind.u32.wrap ((BitVec.ofInt 32 (a : Int) &&& BitVec.ofInt 32 (b : Int)).toNat : Nat) = _
  rw [key, wrap_u32 _ hlt]
theorem rotr_lt (x n : Nat) (hx : x < 4294967296) : rotr x n < 4294967296 := Nat.or_lt_two_pow (n := 32) (Nat.mod_lt _ (by decide)) (Nat.lt_of_le_of_lt (Nat.div_le_self _ _) hx)
theorem rot_or (x : Nat) (hx : x < 4294967296) (n k : Nat) (hk : 32 - n = k) (hn : n ≤ 32) : bits .or .u32 ((x : Int) * 2 ^ k % 4294967296) ((x : Int) / 2 ^ n) = ((rotr x n : Nat) : Int) := by
  unfold rotr
  have e1 : ((x : Int) * 2 ^ k % 4294967296) = ((x * 2 ^ k % 4294967296 : Nat) : Int) := by rw [Int.natCast_emod, Int.natCast_mul, Int.natCast_pow]; rfl
  have e2 : (x : Int) / 2 ^ n = ((x / 2 ^ n : Nat) : Int) := by rw [Int.natCast_ediv, Int.natCast_pow]; rfl
  rw [e1, e2, hk]
  exact u32_or _ _ (Nat.mod_lt _ (by decide)) (Nat.lt_of_le_of_lt (Nat.div_le_self _ _) hx)

theorem rot2 (w : World) (x : Nat) (hx : x < 4294967296) :
    Calls Try.prog 66 #[.int .u32 x, .int .i64 (-2)] w fun e w' => e = .returned (.int .u32 (rotr x 2 : Nat)) ∧ w' = w := by
  have hk : bits BinOp.and IntKind.u64 (IntKind.u64.wrap (-2)) 31 = 30 := by decide
  have HO : Hid (bits .or .u32 ((x : Int) * 1073741824 % 4294967296) ((x : Int) / 4) = ((rotr x 2 : Nat) : Int)) := by
    have h := rot_or x hx 2 30 (by decide) (by decide)
    rw [show (2 : Int) ^ 30 = 1073741824 by decide, show (2 : Int) ^ 2 = 4 by decide] at h
    exact hide h
  go_enter Try.func66, Try.ntmps66
  go_wp2
  go_ret
  refine ⟨?_, rfl⟩
  rw [← HO.out]
  rfl

theorem rot6 (w : World) (x : Nat) (hx : x < 4294967296) :
    Calls Try.prog 66 #[.int .u32 x, .int .i64 (-6)] w fun e w' => e = .returned (.int .u32 (rotr x 6 : Nat)) ∧ w' = w := by
  have hk : bits BinOp.and IntKind.u64 (IntKind.u64.wrap (-6)) 31 = 26 := by decide
  have HO : Hid (bits .or .u32 ((x : Int) * 67108864 % 4294967296) ((x : Int) / 64) = ((rotr x 6 : Nat) : Int)) := by
    have h := rot_or x hx 6 26 (by decide) (by decide)
    rw [show (2 : Int) ^ 26 = 67108864 by decide, show (2 : Int) ^ 6 = 64 by decide] at h
    exact hide h
  go_enter Try.func66, Try.ntmps66
  go_wp2
  go_ret
  refine ⟨?_, rfl⟩
  rw [← HO.out]
  rfl

theorem rot7 (w : World) (x : Nat) (hx : x < 4294967296) :
    Calls Try.prog 66 #[.int .u32 x, .int .i64 (-7)] w fun e w' => e = .returned (.int .u32 (rotr x 7 : Nat)) ∧ w' = w := by
  have hk : bits BinOp.and IntKind.u64 (IntKind.u64.wrap (-7)) 31 = 25 := by decide
  have HO : Hid (bits .or .u32 ((x : Int) * 33554432 % 4294967296) ((x : Int) / 128) = ((rotr x 7 : Nat) : Int)) := by
    have h := rot_or x hx 7 25 (by decide) (by decide)
    rw [show (2 : Int) ^ 25 = 33554432 by decide, show (2 : Int) ^ 7 = 128 by decide] at h
    exact hide h
  go_enter Try.func66, Try.ntmps66
  go_wp2
  go_ret
  refine ⟨?_, rfl⟩
  rw [← HO.out]
  rfl

theorem rot11 (w : World) (x : Nat) (hx : x < 4294967296) :
    Calls Try.prog 66 #[.int .u32 x, .int .i64 (-11)] w fun e w' => e = .returned (.int .u32 (rotr x 11 : Nat)) ∧ w' = w := by
  have hk : bits BinOp.and IntKind.u64 (IntKind.u64.wrap (-11)) 31 = 21 := by decide
  have HO : Hid (bits .or .u32 ((x : Int) * 2097152 % 4294967296) ((x : Int) / 2048) = ((rotr x 11 : Nat) : Int)) := by
    have h := rot_or x hx 11 21 (by decide) (by decide)
    rw [show (2 : Int) ^ 21 = 2097152 by decide, show (2 : Int) ^ 11 = 2048 by decide] at h
    exact hide h
  go_enter Try.func66, Try.ntmps66
  go_wp2
  go_ret
  refine ⟨?_, rfl⟩
  rw [← HO.out]
  rfl

theorem rot13 (w : World) (x : Nat) (hx : x < 4294967296) :
    Calls Try.prog 66 #[.int .u32 x, .int .i64 (-13)] w fun e w' => e = .returned (.int .u32 (rotr x 13 : Nat)) ∧ w' = w := by
  have hk : bits BinOp.and IntKind.u64 (IntKind.u64.wrap (-13)) 31 = 19 := by decide
  have HO : Hid (bits .or .u32 ((x : Int) * 524288 % 4294967296) ((x : Int) / 8192) = ((rotr x 13 : Nat) : Int)) := by
    have h := rot_or x hx 13 19 (by decide) (by decide)
    rw [show (2 : Int) ^ 19 = 524288 by decide, show (2 : Int) ^ 13 = 8192 by decide] at h
    exact hide h
  go_enter Try.func66, Try.ntmps66
  go_wp2
  go_ret
  refine ⟨?_, rfl⟩
  rw [← HO.out]
  rfl

theorem rot17 (w : World) (x : Nat) (hx : x < 4294967296) :
    Calls Try.prog 66 #[.int .u32 x, .int .i64 (-17)] w fun e w' => e = .returned (.int .u32 (rotr x 17 : Nat)) ∧ w' = w := by
  have hk : bits BinOp.and IntKind.u64 (IntKind.u64.wrap (-17)) 31 = 15 := by decide
  have HO : Hid (bits .or .u32 ((x : Int) * 32768 % 4294967296) ((x : Int) / 131072) = ((rotr x 17 : Nat) : Int)) := by
    have h := rot_or x hx 17 15 (by decide) (by decide)
    rw [show (2 : Int) ^ 15 = 32768 by decide, show (2 : Int) ^ 17 = 131072 by decide] at h
    exact hide h
  go_enter Try.func66, Try.ntmps66
  go_wp2
  go_ret
  refine ⟨?_, rfl⟩
  rw [← HO.out]
  rfl

theorem rot18 (w : World) (x : Nat) (hx : x < 4294967296) :
    Calls Try.prog 66 #[.int .u32 x, .int .i64 (-18)] w fun e w' => e = .returned (.int .u32 (rotr x 18 : Nat)) ∧ w' = w := by
  have hk : bits BinOp.and IntKind.u64 (IntKind.u64.wrap (-18)) 31 = 14 := by decide
  have HO : Hid (bits .or .u32 ((x : Int) * 16384 % 4294967296) ((x : Int) / 262144) = ((rotr x 18 : Nat) : Int)) := by
    have h := rot_or x hx 18 14 (by decide) (by decide)
    rw [show (2 : Int) ^ 14 = 16384 by decide, show (2 : Int) ^ 18 = 262144 by decide] at h
    exact hide h
  go_enter Try.func66, Try.ntmps66
  go_wp2
  go_ret
  refine ⟨?_, rfl⟩
  rw [← HO.out]
  rfl

theorem rot19 (w : World) (x : Nat) (hx : x < 4294967296) :
    Calls Try.prog 66 #[.int .u32 x, .int .i64 (-19)] w fun e w' => e = .returned (.int .u32 (rotr x 19 : Nat)) ∧ w' = w := by
  have hk : bits BinOp.and IntKind.u64 (IntKind.u64.wrap (-19)) 31 = 13 := by decide
  have HO : Hid (bits .or .u32 ((x : Int) * 8192 % 4294967296) ((x : Int) / 524288) = ((rotr x 19 : Nat) : Int)) := by
    have h := rot_or x hx 19 13 (by decide) (by decide)
    rw [show (2 : Int) ^ 13 = 8192 by decide, show (2 : Int) ^ 19 = 524288 by decide] at h
    exact hide h
  go_enter Try.func66, Try.ntmps66
  go_wp2
  go_ret
  refine ⟨?_, rfl⟩
  rw [← HO.out]
  rfl

theorem rot22 (w : World) (x : Nat) (hx : x < 4294967296) :
    Calls Try.prog 66 #[.int .u32 x, .int .i64 (-22)] w fun e w' => e = .returned (.int .u32 (rotr x 22 : Nat)) ∧ w' = w := by
  have hk : bits BinOp.and IntKind.u64 (IntKind.u64.wrap (-22)) 31 = 10 := by decide
  have HO : Hid (bits .or .u32 ((x : Int) * 1024 % 4294967296) ((x : Int) / 4194304) = ((rotr x 22 : Nat) : Int)) := by
    have h := rot_or x hx 22 10 (by decide) (by decide)
    rw [show (2 : Int) ^ 10 = 1024 by decide, show (2 : Int) ^ 22 = 4194304 by decide] at h
    exact hide h
  go_enter Try.func66, Try.ntmps66
  go_wp2
  go_ret
  refine ⟨?_, rfl⟩
  rw [← HO.out]
  rfl

theorem rot25 (w : World) (x : Nat) (hx : x < 4294967296) :
    Calls Try.prog 66 #[.int .u32 x, .int .i64 (-25)] w fun e w' => e = .returned (.int .u32 (rotr x 25 : Nat)) ∧ w' = w := by
  have hk : bits BinOp.and IntKind.u64 (IntKind.u64.wrap (-25)) 31 = 7 := by decide
  have HO : Hid (bits .or .u32 ((x : Int) * 128 % 4294967296) ((x : Int) / 33554432) = ((rotr x 25 : Nat) : Int)) := by
    have h := rot_or x hx 25 7 (by decide) (by decide)
    rw [show (2 : Int) ^ 7 = 128 by decide, show (2 : Int) ^ 25 = 33554432 by decide] at h
    exact hide h
  go_enter Try.func66, Try.ntmps66
  go_wp2
  go_ret
  refine ⟨?_, rfl⟩
  rw [← HO.out]
  rfl

set_option maxHeartbeats 1600000 in
theorem mul64 (w : World) (x y : Nat) (hx : x < 18446744073709551616) (hy : y < 18446744073709551616) :
    Calls Try.prog 59 #[.int .u64 x, .int .u64 y] w fun e w' => e = .returned (.tuple #[.int .u64 ((x * y / 18446744073709551616 : Nat) : Int), .int .u64 ((x * y % 18446744073709551616 : Nat) : Int)]) ∧ w' = w := by
  have HA := hide (mul64_arith x y (by omega) (by omega) (by omega) (by omega))
  have ax : bits .and .u64 (x : Int) 4294967295 = (x : Int) % 4294967296 := and_low32 _ (by omega) (by omega)
  have ay : bits .and .u64 (y : Int) 4294967295 = (y : Int) % 4294967296 := and_low32 _ (by omega) (by omega)
  have HX := hide ax
  have HY := hide ay
  clear ax ay
  go_enter Try.func59, Try.ntmps59
  go_wp2
  go_ret2
  refine ⟨?_, rfl⟩
  simp only [HX.out, HY.out, IntKind.wrap_u64]
  have HZ := and_low32 (((x : Int) / 4294967296 * (y % 4294967296) % 18446744073709551616 + (x : Int) % 4294967296 * (y % 4294967296) % 18446744073709551616 / 4294967296) % 18446744073709551616) (Int.emod_nonneg _ (by decide)) (Int.emod_lt_of_pos _ (by decide))
  rw [HZ, HA.out, Int.natCast_ediv, Int.natCast_emod, Int.natCast_mul]
  rfl
end Go.Proofs.Ytkkildgdeagpeah.rot
