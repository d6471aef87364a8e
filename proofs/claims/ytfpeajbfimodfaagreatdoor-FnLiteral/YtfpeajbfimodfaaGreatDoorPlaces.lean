/- Places of a text, a bit each. -/
import Derived.Test.YtfpeajbfimodfaaGreatDoorBytes
import Derived.Laws.Tables
import Derived.Laws.Rows
namespace Go.Proofs.YtfpeajbfimodfaaGreatDoor.places
open Go.ChangeShapes Go.WideShapes Go.ChangeAt Go.RowKit
open Go.Proofs.YtfpeajbfimodfaaGreatDoor.bytes
set_option linter.unusedVariables false

/-- A set of places below 64. -/
def psV (b : Nat) : Value := .agg #[.int .u64 (b : Nat), .int .u64 0]
theorem size87 : (Tryz.prog.info? 87).map (·.size) = some 2 := by kernel_rfl
set_option maxHeartbeats 2000000 in
theorem only_any (w : World) (e : Nat) (he : e ≤ 22) :
    Calls Tryz.prog 56 #[.int .i64 e] w fun r w' => r = .returned (psV (2 ^ e)) ∧ Below w.heap.size w w' := by
  have hq : e / 64 = 0 := by omega
  have hm : e % 64 = e := by omega
  have hqi : (e : Int) / 64 = 0 := by omega
  have hmi : (e : Int) % 64 = e := by omega
  have hlt : 2 ^ e < 18446744073709551616 := Nat.lt_of_le_of_lt (Nat.pow_le_pow_right (by decide) he) (by decide)
  have hw : IntKind.u64.wrap ((2 : Int) ^ e) = ((2 ^ e : Nat) : Int) := by
    rw [show (2 : Int) ^ e = ((2 ^ e : Nat) : Int) by rw [Int.natCast_pow]; rfl]
    generalize 2 ^ e = b at hlt ⊢
    rw [IntKind.wrap_u64]
    omega
  unfold psV
  generalize 2 ^ e = b at hw hlt ⊢
  have HE : Hid (((w.alloc (.cells #[.int .u64 (b : Nat), .int .u64 0] 87)).alloc (.cells #[.int .u64 (b : Nat), .int .u64 0] 87)).heap[w.heap.size]? = some (.cells #[.int .u64 (b : Nat), .int .u64 0] 87 (0, 0))) := by
    unfold Hid
    rw [Below.heap_alloc _ _ _ (by simp)]
    exact heap_alloc_new w _
  go_enter Tryz.func56, Tryz.ntmps56
  go_wp2
  exact bodyPost_ret (results_cell_row rfl _ _ w.heap.size 87 _ (0, 0) _ rfl HE.out Tryz.underlying87 rfl (size87.trans (by simp))) rfl ⟨rfl, ((Below.refl _ _).alloc (Nat.le_refl _) _).alloc (by simp) _⟩
theorem u64_and1 (x : Nat) (hx : x < 18446744073709551616) : bits .and .u64 (x : Int) 1 = ((x % 2 : Nat) : Int) := by
  have h1 : (BitVec.ofInt 64 (x : Int)).toNat = x := by rw [BitVec.toNat_ofInt]; omega
  have h15 : (BitVec.ofInt 64 1).toNat = 2 ^ 1 - 1 := by decide
  have key : (BitVec.ofInt 64 (x : Int) &&& BitVec.ofInt 64 1).toNat = x % 2 := by rw [BitVec.toNat_and, h1, h15, Nat.and_two_pow_sub_one_eq_mod]
  show IntKind.u64.wrap ((BitVec.ofInt 64 (x : Int) &&& BitVec.ofInt 64 1).toNat : Nat) = _
  rw [key, IntKind.wrap_u64]
  omega
set_option maxHeartbeats 2000000 in
theorem has_any (w : World) (b e : Nat) (he : e ≤ 22) (hb : b < 18446744073709551616) :
    Calls Tryz.prog 62 #[psV b, .int .i64 e] w fun r w' => r = .returned (.bool (b.testBit e)) ∧ Below w.heap.size w w' := by
  have hq : e / 64 = 0 := by omega
  have hm : e % 64 = e := by omega
  have hqi : (e : Int) / 64 = 0 := by omega
  have hmi : (e : Int) % 64 = e := by omega
  unfold psV
  have hbt : (bits .and .u64 ((b : Int) / 2 ^ e) 1 == 1) = b.testBit e := by
    have hx : b / 2 ^ e < 18446744073709551616 := Nat.lt_of_le_of_lt (Nat.div_le_self _ _) hb
    rw [show (b : Int) / 2 ^ e = ((b / 2 ^ e : Nat) : Int) by rw [Int.natCast_ediv, Int.natCast_pow]; rfl, u64_and1 _ hx, Nat.testBit_eq_decide_div_mod_eq]
    generalize b / 2 ^ e % 2 = r
    by_cases h : r = 1
    · subst h; rfl
    · have h2 : ¬ (r : Int) = 1 := by omega
      simp [h, h2]
  go_enter Tryz.func62, Tryz.ntmps62
  go_wp2
  go_ret
  exact ⟨by rw [← hbt]; rfl, (Below.refl _ _).alloc (Nat.le_refl _) _⟩
end Go.Proofs.YtfpeajbfimodfaaGreatDoor.places
