/- Contracts of PutNumber and of its model: what they answer at every number. -/
import Derived.Test.YtipcdioolafkpaaPut
import Derived.OpenShut
import Derived.ShutString
import Derived.ChangeOld
namespace Go.Proofs.Ytipcdioolafkpaa.fnExactPutNumber
open Go.ChangeShapes Go.WideShapes Go.ChangeAt Go.RowKit
open Go.ChangeMaps (open_string shut_string)
open Go.Proofs.Ytipcdioolafkpaa.bytes Go.Proofs.Ytipcdioolafkpaa.put
set_option linter.unusedVariables false

theorem own : ownKnob Try.prog.godebug = none := by kernel_rfl
theorem laidOut : laidOutB Try.prog = true := by kernel_rfl

def putL (n : Int) : List Int := if n < 0 then [] else putN n.toNat
def putC (n : Int) : Int := if n < 0 then 5 else 0
theorem putL_len (n : Int) (h : n ≤ 9223372036854775807) : (putL n).length ≤ 10 := by
  unfold putL
  split
  · simp
  · exact putN_len 9 _ (by omega)

set_option maxHeartbeats 400000 in
theorem implPut (n : Int) (w : World) (hn : n ≤ 9223372036854775807) :
    Calls Try.prog 10 #[.int .i64 n] w fun e w' => ∃ v, e = .returned (.tuple #[v, .int .i64 (putC n)]) ∧ Own w' w.heap.size v (putL n) ∧ Below w.heap.size w w' := by
  by_cases h : n < 0
  · have hl : putL n = [] := by simp [putL, h]
    have hc : putC n = 5 := by simp [putC, h]
    rw [hl, hc]
    clear hl hc hn
    go_enter Try.func10, Try.ntmps10
    go_wp2
    go_ret2
    exact ⟨_, rfl, ⟨by simp, World.ownsRow_nil _ _ _ _⟩, Below.refl _ _⟩
  · have hl : putL n = putN n.toNat := by simp [putL, h]
    have hc : putC n = 0 := by simp [putC, h]
    rw [hl, hc]
    obtain ⟨m, rfl⟩ := Int.eq_ofNat_of_zero_le (show 0 ≤ n by omega)
    rw [Int.toNat_natCast]
    have hm : m ≤ maxLen := by unfold maxLen; omega
    have h0 : ¬ (m : Int) < 0 := by omega
    clear hl hc hn h
    go_enter Try.func10, Try.ntmps10
    go_wp2_with fail
    refine (numberBytes_own m _ hm).mono ?_
    rintro e w' ⟨v, rfl, ho, hb⟩
    clear hm
    go_wp2
    go_ret2
    exact ⟨_, rfl, ho, hb⟩
set_option maxHeartbeats 400000 in
theorem specPut (n : Int) (w : World) (hn : n ≤ 9223372036854775807) :
    Calls Try.prog 11 #[.int .i64 n] w fun e w' => ∃ v, e = .returned (.tuple #[v, .int .i64 (putC n)]) ∧ Own w' w.heap.size v (putL n) ∧ Below w.heap.size w w' := by
  by_cases h : n < 0
  · have hl : putL n = [] := by simp [putL, h]
    have hc : putC n = 5 := by simp [putC, h]
    rw [hl, hc]
    clear hl hc hn
    go_enter Try.func11, Try.ntmps11
    go_wp2
    go_ret2
    exact ⟨_, rfl, ⟨by simp, World.ownsRow_lit _ #[] 0 (Nat.le_refl _) (by simp [maxLen]) (by simp)⟩, (Below.refl _ _).alloc (Nat.le_refl _) _⟩
  · have hl : putL n = putN n.toNat := by simp [putL, h]
    have hc : putC n = 0 := by simp [putC, h]
    rw [hl, hc]
    obtain ⟨m, rfl⟩ := Int.eq_ofNat_of_zero_le (show 0 ≤ n by omega)
    rw [Int.toNat_natCast]
    have hm : m ≤ maxLen := by unfold maxLen; omega
    have h0 : ¬ (m : Int) < 0 := by omega
    clear hl hc hn h
    go_enter Try.func11, Try.ntmps11
    go_wp2_with fail
    refine (l01Put_own m _ hm).mono ?_
    rintro e w' ⟨v, rfl, ho, hb⟩
    clear hm
    go_wp2
    go_ret2
    exact ⟨_, rfl, ho, hb⟩
end Go.Proofs.Ytipcdioolafkpaa.fnExactPutNumber
