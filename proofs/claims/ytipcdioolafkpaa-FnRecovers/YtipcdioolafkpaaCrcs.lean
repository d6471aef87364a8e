/- Contracts of the two functions that reckon a check sum, for all bytes that can be read. -/
import Derived.Test.YtipcdioolafkpaaBytes
namespace Go.Proofs.Ytipcdioolafkpaa.crcs
open Go.ChangeShapes Go.WideShapes Go.ChangeAt Go.RowKit
open Go.Proofs.Ytipcdioolafkpaa.bytes
set_option linter.unusedVariables false

def stepN (c : Nat) : Nat := if c % 2 = 1 then (c / 2) ^^^ 3988292384 else c / 2
def stepTo (c : Nat) : Nat → Nat
  | 0 => c
  | k + 1 => stepN (stepTo c k)
def crcTo (xs : List Int) : Nat → Nat
  | 0 => 4294967295
  | k + 1 => stepTo (crcTo xs k ^^^ (xs.getD k 0).toNat) 8
/-- The check sum of bytes. -/
def crcN (xs : List Int) : Nat := crcTo xs xs.length ^^^ 4294967295

theorem stepN_lt {c : Nat} (h : c < 4294967296) : stepN c < 4294967296 := by
  unfold stepN
  split
  · exact Nat.xor_lt_two_pow (n := 32) (by omega) (by omega)
  · omega
theorem stepTo_lt {c : Nat} (h : c < 4294967296) : ∀ k, stepTo c k < 4294967296
  | 0 => h
  | k + 1 => stepN_lt (stepTo_lt h k)
theorem byte_lt {xs : List Int} (hx : ∀ x ∈ xs, 0 ≤ x ∧ x ≤ 255) (k : Nat) : (xs.getD k 0).toNat < 256 := by
  have := getD_bd hx k
  omega
theorem crcTo_lt {xs : List Int} (hx : ∀ x ∈ xs, 0 ≤ x ∧ x ≤ 255) : ∀ k, crcTo xs k < 4294967296
  | 0 => by simp [crcTo]
  | k + 1 => stepTo_lt (Nat.xor_lt_two_pow (n := 32) (crcTo_lt hx k) (by have := byte_lt hx k; omega)) 8
theorem crcN_lt {xs : List Int} (hx : ∀ x ∈ xs, 0 ≤ x ∧ x ≤ 255) : crcN xs < 4294967296 := Nat.xor_lt_two_pow (n := 32) (crcTo_lt hx _) (by omega)

theorem i64_xor (a b : Nat) (ha : a < 4294967296) (hb : b < 4294967296) : bits .xor .i64 (a : Int) (b : Int) = ((a ^^^ b : Nat) : Int) := by
  have hlt : a ^^^ b < 4294967296 := Nat.xor_lt_two_pow (n := 32) ha hb
  have h1 : (BitVec.ofInt 64 (a : Int)).toNat = a := by rw [BitVec.toNat_ofInt]; omega
  have h2 : (BitVec.ofInt 64 (b : Int)).toNat = b := by rw [BitVec.toNat_ofInt]; omega
  have key : (BitVec.ofInt 64 (a : Int) ^^^ BitVec.ofInt 64 (b : Int)).toNat = a ^^^ b := by rw [BitVec.toNat_xor, h1, h2]
  show IntKind.i64.wrap ((BitVec.ofInt 64 (a : Int) ^^^ BitVec.ofInt 64 (b : Int)).toNat : Nat) = _
  rw [key, IntKind.wrap_i64]
  omega
theorem wrap_u32 (n : Nat) (h : n < 4294967296) : IntKind.u32.wrap (n : Int) = (n : Int) := by
  simp [IntKind.wrap, IntKind.bits, IntKind.signed]
  omega
theorem u32_xor (a b : Nat) (ha : a < 4294967296) (hb : b < 4294967296) : bits .xor .u32 (a : Int) (b : Int) = ((a ^^^ b : Nat) : Int) := by
  have hlt : a ^^^ b < 4294967296 := Nat.xor_lt_two_pow (n := 32) ha hb
  have h1 : (BitVec.ofInt 32 (a : Int)).toNat = a := by rw [BitVec.toNat_ofInt]; omega
  have h2 : (BitVec.ofInt 32 (b : Int)).toNat = b := by rw [BitVec.toNat_ofInt]; omega
  have key : (BitVec.ofInt 32 (a : Int) ^^^ BitVec.ofInt 32 (b : Int)).toNat = a ^^^ b := by rw [BitVec.toNat_xor, h1, h2]
  show IntKind.u32.wrap ((BitVec.ofInt 32 (a : Int) ^^^ BitVec.ofInt 32 (b : Int)).toNat : Nat) = _
  rw [key, wrap_u32 _ hlt]
theorem u32_and1 (a : Nat) (ha : a < 4294967296) : bits .and .u32 (a : Int) 1 = ((a % 2 : Nat) : Int) := by
  have h1 : (BitVec.ofInt 32 (a : Int)).toNat = a := by rw [BitVec.toNat_ofInt]; omega
  have h2 : (BitVec.ofInt 32 1).toNat = 2 ^ 1 - 1 := by decide
  have key : (BitVec.ofInt 32 (a : Int) &&& BitVec.ofInt 32 1).toNat = a % 2 := by rw [BitVec.toNat_and, h1, h2, Nat.and_two_pow_sub_one_eq_mod]
  show IntKind.u32.wrap ((BitVec.ofInt 32 (a : Int) &&& BitVec.ofInt 32 1).toNat : Nat) = _
  rw [key, wrap_u32 _ (by omega)]

theorem i64_half (S : Nat) (h : S < 4294967296) : bits .xor .i64 ((S : Int) / 2) 3988292384 = ((S / 2 ^^^ 3988292384 : Nat) : Int) := by
  rw [show (S : Int) / 2 = ((S / 2 : Nat) : Int) by omega, show (3988292384 : Int) = ((3988292384 : Nat) : Int) from rfl]
  exact i64_xor _ _ (by omega) (by omega)
theorem u32_half (S : Nat) (h : S < 4294967296) : bits .xor .u32 ((S : Int) / 2) 3988292384 = ((S / 2 ^^^ 3988292384 : Nat) : Int) := by
  rw [show (S : Int) / 2 = ((S / 2 : Nat) : Int) by omega, show (3988292384 : Int) = ((3988292384 : Nat) : Int) from rfl]
  exact u32_xor _ _ (by omega) (by omega)
theorem i64_turn (S : Nat) (h : S < 4294967296) : bits .xor .i64 (S : Int) 4294967295 = ((S ^^^ 4294967295 : Nat) : Int) := by
  rw [show (4294967295 : Int) = ((4294967295 : Nat) : Int) from rfl]
  exact i64_xor _ _ (by omega) (by omega)

set_option maxHeartbeats 800000 in
theorem l01Crc_any (w : World) (b : Value) (xs : List Int) (hb : Rd w b xs) :
    Calls Try.prog 63 #[b] w fun e w' => e = .returned (.int .i64 (crcN xs)) ∧ w' = w := by
  obtain ⟨ao, ca, rfl, ha1, ha2, hx, ha3⟩ := hb
  unfold maxLen at ha2
  go_enter Try.func63, Try.ntmps63
  go_wp2
  go_loop [3, 4] (fun c i => ∃ k : Nat, k ≤ xs.length ∧ i = .int .i64 k ∧ c = .int .i64 (crcTo xs k)) (fun _ i => xs.length - (intOf i).toNat)
  case atStart => exact ⟨0, by omega, rfl, rfl⟩
  case round =>
    obtain ⟨k, hk, rfl, rfl⟩ := hrel
    have hcl := crcTo_lt hx k
    by_cases hlt : k < xs.length
    · obtain ⟨ab, aoff, rfl, hca⟩ := ha3 (by omega)
      have hc := hca k hlt
      have hbl := byte_lt hx k
      have hbb : xs.getD k 0 = ((xs.getD k 0).toNat : Int) := by have := getD_bd hx k; omega
      rw [hbb] at hc
      have HC : Hid (crcTo xs (k + 1) = stepTo (crcTo xs k ^^^ (xs.getD k 0).toNat) 8) := hide rfl
      clear hbb hca ha3
      generalize crcTo xs k = C at hcl HC ⊢
      generalize (xs.getD k 0).toNat = B at hc hbl HC
      have hxo := i64_xor C B hcl (by omega)
      have hxl : C ^^^ B < 4294967296 := Nat.xor_lt_two_pow (n := 32) hcl (by omega)
      generalize C ^^^ B = X at hxo hxl HC
      go_wp2
      go_loop [3, 5] (fun c i => ∃ j : Nat, j ≤ 8 ∧ i = .int .i64 j ∧ c = .int .i64 (stepTo X j)) (fun _ i => 8 - (intOf i).toNat)
      case atStart => exact ⟨0, by omega, rfl, rfl⟩
      case round =>
        obtain ⟨j, hj, rfl, rfl⟩ := hrel
        have hsl := stepTo_lt hxl j
        by_cases hj8 : j < 8
        · have HS : Hid (stepTo X (j + 1) = stepN (stepTo X j)) := hide rfl
          generalize stepTo X j = S at hsl HS ⊢
          by_cases hodd : S % 2 = 1
          · have HN : Hid (bits .xor .i64 ((S : Int) / 2) 3988292384 = ((stepN S : Nat) : Int)) := by unfold Hid stepN; rw [if_pos hodd]; exact i64_half S hsl
            go_wp2
            go_round
            case rel => exact ⟨j + 1, by omega, by go_num, by rw [HS.out, HN.out]⟩
            case measure => simp [intOf]; omega
          · have HN : Hid (((S : Int) / 2) = ((stepN S : Nat) : Int)) := by unfold Hid stepN; rw [if_neg hodd]; omega
            go_wp2
            go_round
            case rel => exact ⟨j + 1, by omega, by go_num, by rw [HS.out, HN.out]⟩
            case measure => simp [intOf]; omega
        · obtain rfl : j = 8 := by omega
          go_wp2
          go_round
          case rel => exact ⟨k + 1, by omega, by go_num, by rw [HC.out]⟩
          case measure => simp [intOf]; omega
    · obtain rfl : k = xs.length := by omega
      have HT := i64_turn _ hcl
      have HT' : Hid (bits .xor .i64 ((crcTo xs xs.length : Nat) : Int) 4294967295 = ((crcN xs : Nat) : Int)) := HT
      clear HT
      go_wp2
      go_ret
      exact ⟨by rw [HT'.out]; rfl, rfl⟩

set_option maxHeartbeats 400000 in
theorem implCrc_long (w : World) (b : Value) (xs : List Int) (hl : 65536 < xs.length) (hb : Rd w b xs) :
    Calls Try.prog 19 #[b] w fun e w' => e = .returned (.int .i64 0) ∧ w' = w := by
  obtain ⟨ao, ca, rfl, ha1, ha2, hx, ha3⟩ := hb
  unfold maxLen at ha2
  have hl' : (65536 : Int) < xs.length := by omega
  clear ha3 hx
  go_enter Try.func19, Try.ntmps19
  go_wp2
  go_ret
  exact ⟨rfl, rfl⟩

theorem u32_turn (S : Nat) (h : S < 4294967296) : wrap64 (bits .xor .u32 IntKind.u32.max (S : Int)) = ((S ^^^ 4294967295 : Nat) : Int) := by
  have hlt : S ^^^ 4294967295 < 4294967296 := Nat.xor_lt_two_pow (n := 32) (by omega) (by omega)
  rw [show IntKind.u32.max = ((4294967295 : Nat) : Int) from by decide, u32_xor _ _ (by omega) h, Nat.xor_comm]
  unfold wrap64
  omega

set_option maxHeartbeats 800000 in
theorem implCrc_any (w : World) (b : Value) (xs : List Int) (hl : xs.length ≤ 65536) (hb : Rd w b xs) :
    Calls Try.prog 19 #[b] w fun e w' => e = .returned (.int .i64 (crcN xs)) ∧ w' = w := by
  obtain ⟨ao, ca, rfl, ha1, ha2, hx, ha3⟩ := hb
  unfold maxLen at ha2
  have hl' : ¬ (65536 : Int) < xs.length := by omega
  go_enter Try.func19, Try.ntmps19
  go_wp2
  go_loop [3, 12] (fun c i => ∃ k : Nat, k ≤ xs.length ∧ i = .int .i64 k ∧ c = .int .u32 (crcTo xs k)) (fun _ i => xs.length - (intOf i).toNat)
  case atStart => exact ⟨0, by omega, rfl, rfl⟩
  case round =>
    obtain ⟨k, hk, rfl, rfl⟩ := hrel
    have hcl := crcTo_lt hx k
    by_cases hlt : k < xs.length
    · obtain ⟨ab, aoff, rfl, hca⟩ := ha3 (by omega)
      have hc := hca k hlt
      have hbl := byte_lt hx k
      have hbb : xs.getD k 0 = ((xs.getD k 0).toNat : Int) := by have := getD_bd hx k; omega
      rw [hbb] at hc
      have HC : Hid (crcTo xs (k + 1) = stepTo (crcTo xs k ^^^ (xs.getD k 0).toNat) 8) := hide rfl
      clear hbb hca ha3
      generalize crcTo xs k = C at hcl HC ⊢
      generalize (xs.getD k 0).toNat = B at hc hbl HC
      have hxo := u32_xor C B hcl (by omega)
      have hxl : C ^^^ B < 4294967296 := Nat.xor_lt_two_pow (n := 32) hcl (by omega)
      generalize C ^^^ B = X at hxo hxl HC
      go_wp2
      go_loop [3, 20] (fun c i => ∃ j : Nat, j ≤ 8 ∧ i = .int .i64 j ∧ c = .int .u32 (stepTo X j)) (fun _ i => 8 - (intOf i).toNat)
      case atStart => exact ⟨0, by omega, rfl, rfl⟩
      case round =>
        obtain ⟨j, hj, rfl, rfl⟩ := hrel
        have hsl := stepTo_lt hxl j
        by_cases hj8 : j < 8
        · have HS : Hid (stepTo X (j + 1) = stepN (stepTo X j)) := hide rfl
          generalize stepTo X j = S at hsl HS ⊢
          have ha := u32_and1 S hsl
          by_cases hodd : S % 2 = 1
          · have HN : Hid (bits .xor .u32 ((S : Int) / 2) 3988292384 = ((stepN S : Nat) : Int)) := by unfold Hid stepN; rw [if_pos hodd]; exact u32_half S hsl
            rw [hodd] at ha
            go_wp2
            go_round
            case rel => exact ⟨j + 1, by omega, by go_num, by rw [HS.out, HN.out]⟩
            case measure => simp [intOf]; omega
          · have HN : Hid (((S : Int) / 2) = ((stepN S : Nat) : Int)) := by unfold Hid stepN; rw [if_neg hodd]; omega
            rw [show S % 2 = 0 by omega] at ha
            go_wp2
            go_round
            case rel => exact ⟨j + 1, by omega, by go_num, by rw [HS.out, HN.out]⟩
            case measure => simp [intOf]; omega
        · obtain rfl : j = 8 := by omega
          go_wp2
          go_round
          case rel => exact ⟨k + 1, by omega, by go_num, by rw [HC.out]⟩
          case measure => simp [intOf]; omega
    · obtain rfl : k = xs.length := by omega
      have hsg : IntKind.u32.signed = false := rfl
      have HT : Hid (wrap64 (bits .xor .u32 IntKind.u32.max ((crcTo xs xs.length : Nat) : Int)) = ((crcN xs : Nat) : Int)) := u32_turn _ hcl
      go_wp2
      go_ret
      exact ⟨by rw [HT.out]; rfl, rfl⟩
end Go.Proofs.Ytipcdioolafkpaa.crcs
