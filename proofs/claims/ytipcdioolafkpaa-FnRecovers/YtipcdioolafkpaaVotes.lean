/- Contracts of the functions that make the records of a log: bounds, payloads, frames. -/
import Derived.Test.YtipcdioolafkpaaFrames
import Derived.Deep.RegionHeldLaw
import Derived.Deep.RegionLaw
namespace Go.Proofs.Ytipcdioolafkpaa.votes
open Go.ChangeShapes Go.WideShapes Go.ChangeAt Go.RowKit
open Go.Proofs.Ytipcdioolafkpaa.bytes Go.Proofs.Ytipcdioolafkpaa.pile Go.Proofs.Ytipcdioolafkpaa.put Go.Proofs.Ytipcdioolafkpaa.crcs Go.Proofs.Ytipcdioolafkpaa.join Go.Proofs.Ytipcdioolafkpaa.frames
set_option linter.unusedVariables false

/-- A term, vote or index in its bounds. -/
def inB (n : Int) : Bool := decide (0 ≤ n ∧ n ≤ 1000000)
theorem inB_yes {n : Int} (h : 0 ≤ n ∧ n ≤ 1000000) : inB n = true := by simp [inB, h]
theorem inB_no {n : Int} (h : ¬ (0 ≤ n ∧ n ≤ 1000000)) : inB n = false := by simp only [inB, decide_eq_false_iff_not]; exact h

/-- The slice value v reads, in world w, as these two numbers. -/
theorem terms_two (w : World) (B : Nat) (a b : Int) (h : w.heap[B]? = some (.cells #[.int .i64 a, .int .i64 b] 3 (0, 0))) :
    Calls Try.prog 90 #[.slice (some ⟨B, 0, none⟩) 2 2] w fun e w' => e = .returned (.bool (inB a && inB b)) ∧ w' = w := by
  have h0 : w.cell? ⟨B, 0, none⟩ = some (.int .i64 a) := by simp [World.cell?, h]
  have h1 : w.cell? ⟨B, 1, none⟩ = some (.int .i64 b) := by simp [World.cell?, h]
  clear h
  go_enter Try.func90, Try.ntmps90
  go_wp2
  go_loop [7] (fun i => ∃ k : Nat, k ≤ 2 ∧ i = .int .i64 k ∧ (0 < k → inB a = true) ∧ (1 < k → inB b = true)) (fun i => 2 - (intOf i).toNat)
  case atStart => exact ⟨0, by omega, rfl, by omega, by omega⟩
  case round =>
    obtain ⟨k, hk, rfl, q0, q1⟩ := hrel
    have h3 : k = 0 ∨ k = 1 ∨ k = 2 := by omega
    rcases h3 with rfl | rfl | rfl
    · by_cases ha : 0 ≤ a
      · by_cases ha' : a ≤ 1000000
        · have e1 : ¬ a < 0 := by omega
          have e2 : ¬ (1000000 : Int) < a := by omega
          have HA : Hid (inB a = true) := inB_yes ⟨ha, ha'⟩
          go_wp2
          go_round
          case rel => exact ⟨1, by omega, by go_num, fun _ => HA.out, by omega⟩
          case measure => simp [intOf]
        · have e1 : ¬ a < 0 := by omega
          have e2 : (1000000 : Int) < a := by omega
          have HA : Hid (inB a = false) := inB_no (by omega)
          go_wp2
          go_ret
          exact ⟨ret_bool (by rw [HA.out]; rfl), rfl⟩
      · have e1 : a < 0 := by omega
        have HA : Hid (inB a = false) := inB_no (by omega)
        go_wp2
        go_ret
        exact ⟨ret_bool (by rw [HA.out]; rfl), rfl⟩
    · have HA : Hid (inB a = true) := q0 (by omega)
      clear q0 q1
      by_cases hb : 0 ≤ b
      · by_cases hb' : b ≤ 1000000
        · have e1 : ¬ b < 0 := by omega
          have e2 : ¬ (1000000 : Int) < b := by omega
          have HB : Hid (inB b = true) := inB_yes ⟨hb, hb'⟩
          go_wp2
          go_round
          case rel => exact ⟨2, by omega, by go_num, fun _ => HA.out, fun _ => HB.out⟩
          case measure => simp [intOf]
        · have e1 : ¬ b < 0 := by omega
          have e2 : (1000000 : Int) < b := by omega
          have HB : Hid (inB b = false) := inB_no (by omega)
          go_wp2
          go_ret
          exact ⟨ret_bool (by rw [HA.out, HB.out]; rfl), rfl⟩
      · have e1 : b < 0 := by omega
        have HB : Hid (inB b = false) := inB_no (by omega)
        go_wp2
        go_ret
        exact ⟨ret_bool (by rw [HA.out, HB.out]; rfl), rfl⟩
    · have HA : Hid (inB a = true) := q0 (by omega)
      have HB : Hid (inB b = true) := q1 (by omega)
      clear q0 q1
      go_wp2
      go_ret
      exact ⟨ret_bool (by rw [HA.out, HB.out]; rfl), rfl⟩

theorem vote_in (w : World) (a b : Int) :
    Calls Try.prog 81 #[.agg #[.int .i64 a, .int .i64 b]] w fun e w' => e = .returned (.bool (inB a && inB b)) ∧ Below w.heap.size w w' := by
  have HB : Hid (Below w.heap.size w ((w.alloc (.cells #[.int .i64 a, .int .i64 b] 120)).alloc (.cells #[.int .i64 a, .int .i64 b] 3))) := ((Below.refl _ _).alloc (Nat.le_refl _) _).alloc (by simp) _
  go_enter Try.func81, Try.ntmps81
  go_wp2_with fail
  refine (terms_two _ (w.heap.size + 1) a b (by have := heap_alloc_new (w.alloc (.cells #[.int .i64 a, .int .i64 b] 120)) (.cells #[.int .i64 a, .int .i64 b] 3); simpa using this)).mono ?_
  rintro e w' ⟨rfl, rfl⟩
  go_wp2
  go_ret
  exact ⟨rfl, HB.out⟩

theorem base_in (w : World) (a b : Int) :
    Calls Try.prog 109 #[.agg #[.int .i64 a, .int .i64 b]] w fun e w' => e = .returned (.bool (inB a && inB b)) ∧ Below w.heap.size w w' := by
  have HB : Hid (Below w.heap.size w ((w.alloc (.cells #[.int .i64 a, .int .i64 b] 127)).alloc (.cells #[.int .i64 a, .int .i64 b] 3))) := ((Below.refl _ _).alloc (Nat.le_refl _) _).alloc (by simp) _
  go_enter Try.func109, Try.ntmps109
  go_wp2_with fail
  refine (terms_two _ (w.heap.size + 1) a b (by have := heap_alloc_new (w.alloc (.cells #[.int .i64 a, .int .i64 b] 127)) (.cells #[.int .i64 a, .int .i64 b] 3); simpa using this)).mono ?_
  rintro e w' ⟨rfl, rfl⟩
  go_wp2
  go_ret
  exact ⟨rfl, HB.out⟩
end Go.Proofs.Ytipcdioolafkpaa.votes
