/- Contracts: when a job is right, by the specification and by the program. -/
import Derived.Test.YtolmngfjdcoapaaDoorJHelp
namespace Go.Proofs.YtolmngfjdcoapaaDoor.jok
open Go.ChangeShapes Go.WideShapes Go.ChangeAt Go.RowKit
open Go.Proofs.YtolmngfjdcoapaaDoor.bytes Go.Proofs.YtolmngfjdcoapaaDoor.pile Go.Proofs.YtolmngfjdcoapaaDoor.put Go.Proofs.YtolmngfjdcoapaaDoor.jhelp
set_option linter.unusedVariables false

theorem fal {a b : Bool} (h : a = false) : (a && b) = false := by rw [h]; rfl

set_option maxHeartbeats 1600000 in
theorem specOK (w : World) (c s : Int) (F : ByteArray) (v : Int) (S T : ByteArray) (e q : Bool) (hF : F.size ≤ maxLen) (hS : S.size ≤ maxLen) (hT : T.size ≤ maxLen) :
    Calls Tryd.prog 18 #[.agg #[.int .i64 c, .int .i64 s, .string F, .int .i64 v, .string S, .string T, .bool e, .bool q]] w fun r w' => r = .returned (.bool (jobB c s F.size v S.size T.size)) ∧ Below w.heap.size w w' := by
  unfold maxLen at hF hS hT
  obtain ⟨W, hW⟩ : ∃ W, W = w.alloc (.cells #[.int .i64 c, .int .i64 s, .string F, .int .i64 v, .string S, .string T, .bool e, .bool q] 50) := ⟨_, rfl⟩
  have HB : Hid (Below w.heap.size w W) := by rw [hW]; exact (Below.refl _ _).alloc (Nat.le_refl _) _
  have k0 : W.heap[w.heap.size]? = some (.cells #[.int .i64 c, .int .i64 s, .string F, .int .i64 v, .string S, .string T, .bool e, .bool q] 50 (0, 0)) := by rw [hW]; exact heap_alloc_new w _
  have c0 : W.cell? ⟨w.heap.size, 0, none⟩ = some (.int .i64 c) := cell_of k0 rfl
  have c1 : W.cell? ⟨w.heap.size, 1, none⟩ = some (.int .i64 s) := cell_of k0 rfl
  have c2 : W.cell? ⟨w.heap.size, 2, none⟩ = some (.string F) := cell_of k0 rfl
  have c3 : W.cell? ⟨w.heap.size, 3, none⟩ = some (.int .i64 v) := cell_of k0 rfl
  have c4 : W.cell? ⟨w.heap.size, 4, none⟩ = some (.string S) := cell_of k0 rfl
  have c5 : W.cell? ⟨w.heap.size, 5, none⟩ = some (.string T) := cell_of k0 rfl
  clear k0
  obtain ⟨b1, h1⟩ : ∃ b, b = inT 1 c := ⟨_, rfl⟩
  obtain ⟨b2, h2⟩ : ∃ b, b = inT 1 s := ⟨_, rfl⟩
  obtain ⟨b3, h3⟩ : ∃ b, b = inT 0 v := ⟨_, rfl⟩
  have H1 : Hid (∀ wx, Calls Tryd.prog 23 #[.int .i64 c, .int .i64 1, .int .i64 1000000] wx fun r w' => r = .returned (.bool b1) ∧ w' = wx) := fun wx => by rw [h1]; exact in_any wx c 1
  have H2 : Hid (∀ wx, Calls Tryd.prog 23 #[.int .i64 s, .int .i64 1, .int .i64 1000000] wx fun r w' => r = .returned (.bool b2) ∧ w' = wx) := fun wx => by rw [h2]; exact in_any wx s 1
  have H3 : Hid (∀ wx, Calls Tryd.prog 23 #[.int .i64 v, .int .i64 0, .int .i64 1000000] wx fun r w' => r = .returned (.bool b3) ∧ w' = wx) := fun wx => by rw [h3]; exact in_any wx v 0
  have HE : Hid (jobB c s F.size v S.size T.size = (b1 && (b2 && (b3 && (decide (F.size ≤ 40) && (decide (S.size ≤ 2000) && decide (T.size ≤ 2000))))))) := by unfold Hid jobB; rw [h1, h2, h3]
  clear h1 h2 h3
  cases b1
  · go_enter Tryd.func18, Tryd.ntmps18
    go_wp2_with fail
    first | rw [← hW] | skip
    refine (H1.out _).mono ?_
    rintro r w1 ⟨rfl, rfl⟩
    go_wp2
    go_ret
    exact ⟨ret_bool (by first | exact HE.out.symm | (rw [HE.out]; simp; done) | (rw [HE.out]; simp [hF4, hS4]; omega) | (rw [HE.out]; simp; omega)), by first | exact HB.out | (rw [← hW]; exact HB.out)⟩
  cases b2
  · go_enter Tryd.func18, Tryd.ntmps18
    go_wp2_with fail
    first | rw [← hW] | skip
    refine (H1.out _).mono ?_
    rintro r w1 ⟨rfl, rfl⟩
    go_wp2_with fail
    first | rw [← hW] | skip
    refine (H2.out _).mono ?_
    rintro r w2 ⟨rfl, rfl⟩
    go_wp2
    go_ret
    exact ⟨ret_bool (by first | exact HE.out.symm | (rw [HE.out]; simp; done) | (rw [HE.out]; simp [hF4, hS4]; omega) | (rw [HE.out]; simp; omega)), by first | exact HB.out | (rw [← hW]; exact HB.out)⟩
  by_cases hF4 : F.size ≤ 40
  rotate_left
  · have hF4' : (40 : Int) < F.size := by omega
    go_enter Tryd.func18, Tryd.ntmps18
    go_wp2_with fail
    first | rw [← hW] | skip
    refine (H1.out _).mono ?_
    rintro r w1 ⟨rfl, rfl⟩
    go_wp2_with fail
    first | rw [← hW] | skip
    refine (H2.out _).mono ?_
    rintro r w2 ⟨rfl, rfl⟩
    go_wp2
    go_ret
    exact ⟨ret_bool (by first | exact HE.out.symm | (rw [HE.out]; simp; done) | (rw [HE.out]; simp [hF4, hS4]; omega) | (rw [HE.out]; simp; omega)), by first | exact HB.out | (rw [← hW]; exact HB.out)⟩
  have hF4' : (F.size : Int) ≤ 40 := by omega
  cases b3
  · go_enter Tryd.func18, Tryd.ntmps18
    go_wp2_with fail
    first | rw [← hW] | skip
    refine (H1.out _).mono ?_
    rintro r w1 ⟨rfl, rfl⟩
    go_wp2_with fail
    first | rw [← hW] | skip
    refine (H2.out _).mono ?_
    rintro r w2 ⟨rfl, rfl⟩
    go_wp2_with fail
    first | rw [← hW] | skip
    refine (H3.out _).mono ?_
    rintro r w3 ⟨rfl, rfl⟩
    go_wp2
    go_ret
    exact ⟨ret_bool (by first | exact HE.out.symm | (rw [HE.out]; simp; done) | (rw [HE.out]; simp [hF4, hS4]; omega) | (rw [HE.out]; simp; omega)), by first | exact HB.out | (rw [← hW]; exact HB.out)⟩
  by_cases hS4 : S.size ≤ 2000
  rotate_left
  · have hS4' : (2000 : Int) < S.size := by omega
    go_enter Tryd.func18, Tryd.ntmps18
    go_wp2_with fail
    first | rw [← hW] | skip
    refine (H1.out _).mono ?_
    rintro r w1 ⟨rfl, rfl⟩
    go_wp2_with fail
    first | rw [← hW] | skip
    refine (H2.out _).mono ?_
    rintro r w2 ⟨rfl, rfl⟩
    go_wp2_with fail
    first | rw [← hW] | skip
    refine (H3.out _).mono ?_
    rintro r w3 ⟨rfl, rfl⟩
    go_wp2
    go_ret
    exact ⟨ret_bool (by first | exact HE.out.symm | (rw [HE.out]; simp; done) | (rw [HE.out]; simp [hF4, hS4]; omega) | (rw [HE.out]; simp; omega)), by first | exact HB.out | (rw [← hW]; exact HB.out)⟩
  have hS4' : (S.size : Int) ≤ 2000 := by omega
  by_cases hT4 : T.size ≤ 2000
  rotate_left
  · have hT4' : (2000 : Int) < T.size := by omega
    go_enter Tryd.func18, Tryd.ntmps18
    go_wp2_with fail
    first | rw [← hW] | skip
    refine (H1.out _).mono ?_
    rintro r w1 ⟨rfl, rfl⟩
    go_wp2_with fail
    first | rw [← hW] | skip
    refine (H2.out _).mono ?_
    rintro r w2 ⟨rfl, rfl⟩
    go_wp2_with fail
    first | rw [← hW] | skip
    refine (H3.out _).mono ?_
    rintro r w3 ⟨rfl, rfl⟩
    go_wp2
    go_ret
    exact ⟨ret_bool (by first | exact HE.out.symm | (rw [HE.out]; simp; done) | (rw [HE.out]; simp [hF4, hS4]; omega) | (rw [HE.out]; simp; omega)), by first | exact HB.out | (rw [← hW]; exact HB.out)⟩
  have hT4' : (T.size : Int) ≤ 2000 := by omega
  go_enter Tryd.func18, Tryd.ntmps18
  go_wp2_with fail
  first | rw [← hW] | skip
  refine (H1.out _).mono ?_
  rintro r w1 ⟨rfl, rfl⟩
  go_wp2_with fail
  first | rw [← hW] | skip
  refine (H2.out _).mono ?_
  rintro r w2 ⟨rfl, rfl⟩
  go_wp2_with fail
  first | rw [← hW] | skip
  refine (H3.out _).mono ?_
  rintro r w3 ⟨rfl, rfl⟩
  go_wp2
  go_ret
  exact ⟨ret_bool (by first | exact HE.out.symm | (rw [HE.out]; simp; done) | (rw [HE.out]; simp [hF4, hS4]; omega) | (rw [HE.out]; simp; omega)), by first | exact HB.out | (rw [← hW]; exact HB.out)⟩

set_option maxHeartbeats 800000 in
theorem from_two (w : World) (B : Nat) (a b : Int) (h : w.heap[B]? = some (.cells #[.int .i64 a, .int .i64 b] 3 (0, 0))) :
    Calls Tryd.prog 39 #[.slice (some ⟨B, 0, none⟩) 2 2] w fun r w' => r = .returned (.bool (inT 1 a && inT 1 b)) ∧ w' = w := by
  have h0 : w.cell? ⟨B, 0, none⟩ = some (.int .i64 a) := cell_of h rfl
  have h1 : w.cell? ⟨B, 1, none⟩ = some (.int .i64 b) := cell_of h rfl
  clear h
  go_enter Tryd.func39, Tryd.ntmps39
  go_wp2
  go_loop [7] (fun i => ∃ k : Nat, k ≤ 2 ∧ i = .int .i64 k ∧ (0 < k → inT 1 a = true) ∧ (1 < k → inT 1 b = true)) (fun i => 2 - (intOf i).toNat)
  case atStart => exact ⟨0, by omega, rfl, by omega, by omega⟩
  case round =>
    obtain ⟨k, hk, rfl, q0, q1⟩ := hrel
    have h3 : k = 0 ∨ k = 1 ∨ k = 2 := by omega
    rcases h3 with rfl | rfl | rfl
    · clear q0 q1
      by_cases ha : 1 ≤ a
      · by_cases ha' : a ≤ 1000000
        · have e1 : ¬ a < 1 := by omega
          have e2 : ¬ (1000000 : Int) < a := by omega
          have HA0 : Hid (inT 1 a = true) := by simp [Hid, inT, ha, ha']
          go_wp2
          go_round
          case rel => exact ⟨1, by omega, by go_num, fun _ => HA0.out, by omega⟩
          case measure => simp [intOf]
        · have e1 : ¬ a < 1 := by omega
          have e2 : (1000000 : Int) < a := by omega
          have HA0 : Hid (inT 1 a = false) := by simp [Hid, inT, ha']
          go_wp2
          go_ret
          exact ⟨ret_bool (by rw [HA0.out]; rfl), rfl⟩
      · have e1 : a < 1 := by omega
        have HA0 : Hid (inT 1 a = false) := by simp [Hid, inT, ha]
        go_wp2
        go_ret
        exact ⟨ret_bool (by rw [HA0.out]; rfl), rfl⟩
    · have HA0 : Hid (inT 1 a = true) := q0 (by omega)
      clear q0 q1
      by_cases ha : 1 ≤ b
      · by_cases ha' : b ≤ 1000000
        · have e1 : ¬ b < 1 := by omega
          have e2 : ¬ (1000000 : Int) < b := by omega
          have HA1 : Hid (inT 1 b = true) := by simp [Hid, inT, ha, ha']
          go_wp2
          go_round
          case rel => exact ⟨2, by omega, by go_num, fun _ => HA0.out, fun _ => HA1.out⟩
          case measure => simp [intOf]
        · have e1 : ¬ b < 1 := by omega
          have e2 : (1000000 : Int) < b := by omega
          have HA1 : Hid (inT 1 b = false) := by simp [Hid, inT, ha']
          go_wp2
          go_ret
          exact ⟨ret_bool (by rw [HA0.out, HA1.out]; rfl), rfl⟩
      · have e1 : b < 1 := by omega
        have HA1 : Hid (inT 1 b = false) := by simp [Hid, inT, ha]
        go_wp2
        go_ret
        exact ⟨ret_bool (by rw [HA0.out, HA1.out]; rfl), rfl⟩
    · have HA0 : Hid (inT 1 a = true) := q0 (by omega)
      have HA1 : Hid (inT 1 b = true) := q1 (by omega)
      clear q0 q1
      go_wp2
      go_ret
      exact ⟨ret_bool (by rw [HA0.out, HA1.out]; rfl), rfl⟩

set_option maxHeartbeats 800000 in
theorem terms_one (w : World) (B : Nat) (a : Int) (h : w.heap[B]? = some (.cells #[.int .i64 a] 3 (0, 0))) :
    Calls Tryd.prog 40 #[.slice (some ⟨B, 0, none⟩) 1 1] w fun r w' => r = .returned (.bool (inT 0 a)) ∧ w' = w := by
  have h0 : w.cell? ⟨B, 0, none⟩ = some (.int .i64 a) := cell_of h rfl
  clear h
  go_enter Tryd.func40, Tryd.ntmps40
  go_wp2
  go_loop [7] (fun i => ∃ k : Nat, k ≤ 1 ∧ i = .int .i64 k ∧ (0 < k → inT 0 a = true)) (fun i => 1 - (intOf i).toNat)
  case atStart => exact ⟨0, by omega, rfl, by omega⟩
  case round =>
    obtain ⟨k, hk, rfl, q0⟩ := hrel
    have h3 : k = 0 ∨ k = 1 := by omega
    rcases h3 with rfl | rfl
    · clear q0
      by_cases ha : 0 ≤ a
      · by_cases ha' : a ≤ 1000000
        · have e1 : ¬ a < 0 := by omega
          have e2 : ¬ (1000000 : Int) < a := by omega
          have HA0 : Hid (inT 0 a = true) := by simp [Hid, inT, ha, ha']
          go_wp2
          go_round
          case rel => exact ⟨1, by omega, by go_num, fun _ => HA0.out⟩
          case measure => simp [intOf]
        · have e1 : ¬ a < 0 := by omega
          have e2 : (1000000 : Int) < a := by omega
          have HA0 : Hid (inT 0 a = false) := by simp [Hid, inT, ha']
          go_wp2
          go_ret
          exact ⟨ret_bool (by rw [HA0.out]), rfl⟩
      · have e1 : a < 0 := by omega
        have HA0 : Hid (inT 0 a = false) := by simp [Hid, inT, ha]
        go_wp2
        go_ret
        exact ⟨ret_bool (by rw [HA0.out]), rfl⟩
    · have HA0 : Hid (inT 0 a = true) := q0 (by omega)
      clear q0
      go_wp2
      go_ret
      exact ⟨ret_bool (by rw [HA0.out]), rfl⟩

set_option maxHeartbeats 1600000 in
theorem implOK (w : World) (c s : Int) (F : ByteArray) (v : Int) (S T : ByteArray) (e q : Bool) (hF : F.size ≤ maxLen) (hS : S.size ≤ maxLen) (hT : T.size ≤ maxLen) :
    Calls Tryd.prog 33 #[.agg #[.int .i64 c, .int .i64 s, .string F, .int .i64 v, .string S, .string T, .bool e, .bool q]] w fun r w' => r = .returned (.bool (jobB c s F.size v S.size T.size)) ∧ Below w.heap.size w w' := by
  unfold maxLen at hF hS hT
  obtain ⟨W0, hW0⟩ : ∃ W, W = w.alloc (.cells #[.int .i64 c, .int .i64 s, .string F, .int .i64 v, .string S, .string T, .bool e, .bool q] 50) := ⟨_, rfl⟩
  obtain ⟨W, hW⟩ : ∃ W, W = W0.alloc (.cells #[.int .i64 c, .int .i64 s] 3) := ⟨_, rfl⟩
  obtain ⟨W2, hW2⟩ : ∃ X, X = W.alloc (.cells #[.int .i64 v] 3) := ⟨_, rfl⟩
  have z0 : W0.heap.size = w.heap.size + 1 := by rw [hW0]; simp
  have z1 : W.heap.size = w.heap.size + 2 := by rw [hW]; simp [z0]
  have b0 : Below w.heap.size w W0 := by rw [hW0]; exact (Below.refl _ _).alloc (Nat.le_refl _) _
  have b1' : Below w.heap.size w W := by rw [hW]; exact b0.alloc b0.size _
  have HB : Hid (Below w.heap.size w W) := b1'
  have HB2 : Hid (Below w.heap.size w W2) := by rw [hW2]; exact b1'.alloc b1'.size _
  have k0 : W0.heap[w.heap.size]? = some (.cells #[.int .i64 c, .int .i64 s, .string F, .int .i64 v, .string S, .string T, .bool e, .bool q] 50 (0, 0)) := by rw [hW0]; exact heap_alloc_new w _
  have k1 : W.heap[w.heap.size]? = some (.cells #[.int .i64 c, .int .i64 s, .string F, .int .i64 v, .string S, .string T, .bool e, .bool q] 50 (0, 0)) := by rw [hW, Below.heap_alloc _ _ _ (by omega)]; exact k0
  have k2 : W2.heap[w.heap.size]? = some (.cells #[.int .i64 c, .int .i64 s, .string F, .int .i64 v, .string S, .string T, .bool e, .bool q] 50 (0, 0)) := by rw [hW2, Below.heap_alloc _ _ _ (by omega)]; exact k1
  have a0 : W0.cell? ⟨w.heap.size, 0, none⟩ = some (.int .i64 c) := cell_of k0 rfl
  have a1 : W0.cell? ⟨w.heap.size, 1, none⟩ = some (.int .i64 s) := cell_of k0 rfl
  have a3 : W.cell? ⟨w.heap.size, 3, none⟩ = some (.int .i64 v) := cell_of k1 rfl
  have a2 : W2.cell? ⟨w.heap.size, 2, none⟩ = some (.string F) := cell_of k2 rfl
  have a4 : W2.cell? ⟨w.heap.size, 4, none⟩ = some (.string S) := cell_of k2 rfl
  have a5 : W2.cell? ⟨w.heap.size, 5, none⟩ = some (.string T) := cell_of k2 rfl
  obtain ⟨b1, h1⟩ : ∃ b, b = (inT 1 c && inT 1 s) := ⟨_, rfl⟩
  obtain ⟨b3, h3⟩ : ∃ b, b = inT 0 v := ⟨_, rfl⟩
  have H1 : Hid (Calls Tryd.prog 39 #[.slice (some ⟨w.heap.size + 1, 0, none⟩) 2 2] W fun r w' => r = .returned (.bool b1) ∧ w' = W) := by rw [h1]; exact from_two W (w.heap.size + 1) c s (by rw [hW]; exact new_at z0)
  have H3 : Hid (Calls Tryd.prog 40 #[.slice (some ⟨w.heap.size + 2, 0, none⟩) 1 1] W2 fun r w' => r = .returned (.bool b3) ∧ w' = W2) := by rw [h3]; exact terms_one W2 (w.heap.size + 2) v (by rw [hW2]; exact new_at z1)
  have HE : Hid (jobB c s F.size v S.size T.size = (b1 && (b3 && (decide (F.size ≤ 40) && (decide (S.size ≤ 2000) && decide (T.size ≤ 2000)))))) := by unfold Hid jobB; rw [h1, h3, Bool.and_assoc]
  have Z1 : Hid (W.heap.size = w.heap.size + 2) := z1
  clear h1 h3 k0 k1 k2 b0 b1' z0 z1
  cases b1
  · go_enter Tryd.func33, Tryd.ntmps33
    go_wp2_with fail
    rw [← hW0, ← hW]
    refine H1.out.mono ?_
    rintro r w1 ⟨rfl, rfl⟩
    go_wp2
    go_ret
    exact ⟨ret_bool (by first | exact HE.out.symm | (rw [HE.out]; simp; done) | (rw [HE.out]; simp [hF4, hS4]; omega) | (rw [HE.out]; simp; omega)), by first | exact HB.out | exact HB2.out | (rw [← hW0, ← hW]; exact HB.out) | (rw [← hW0, ← hW, ← hW2]; exact HB2.out)⟩
  cases b3
  · go_enter Tryd.func33, Tryd.ntmps33
    go_wp2_with fail
    rw [← hW0, ← hW]
    refine H1.out.mono ?_
    rintro r w1 ⟨rfl, rfl⟩
    go_wp2_with fail
    rw [← hW0, ← hW, ← hW2]
    refine H3.out.mono ?_
    rintro r w2 ⟨rfl, rfl⟩
    go_wp2
    go_ret
    exact ⟨ret_bool (by first | exact HE.out.symm | (rw [HE.out]; simp; done) | (rw [HE.out]; simp [hF4, hS4]; omega) | (rw [HE.out]; simp; omega)), by first | exact HB.out | exact HB2.out | (rw [← hW0, ← hW]; exact HB.out) | (rw [← hW0, ← hW, ← hW2]; exact HB2.out)⟩
  by_cases hF4 : F.size ≤ 40
  rotate_left
  · have hF4' : (40 : Int) < F.size := by omega
    go_enter Tryd.func33, Tryd.ntmps33
    go_wp2_with fail
    rw [← hW0, ← hW]
    refine H1.out.mono ?_
    rintro r w1 ⟨rfl, rfl⟩
    go_wp2_with fail
    rw [← hW0, ← hW, ← hW2]
    refine H3.out.mono ?_
    rintro r w2 ⟨rfl, rfl⟩
    go_wp2
    go_ret
    exact ⟨ret_bool (by first | exact HE.out.symm | (rw [HE.out]; simp; done) | (rw [HE.out]; simp [hF4, hS4]; omega) | (rw [HE.out]; simp; omega)), by first | exact HB.out | exact HB2.out | (rw [← hW0, ← hW]; exact HB.out) | (rw [← hW0, ← hW, ← hW2]; exact HB2.out)⟩
  have hF4' : (F.size : Int) ≤ 40 := by omega
  by_cases hS4 : S.size ≤ 2000
  rotate_left
  · have hS4' : (2000 : Int) < S.size := by omega
    go_enter Tryd.func33, Tryd.ntmps33
    go_wp2_with fail
    rw [← hW0, ← hW]
    refine H1.out.mono ?_
    rintro r w1 ⟨rfl, rfl⟩
    go_wp2_with fail
    rw [← hW0, ← hW, ← hW2]
    refine H3.out.mono ?_
    rintro r w2 ⟨rfl, rfl⟩
    go_wp2
    go_ret
    exact ⟨ret_bool (by first | exact HE.out.symm | (rw [HE.out]; simp; done) | (rw [HE.out]; simp [hF4, hS4]; omega) | (rw [HE.out]; simp; omega)), by first | exact HB.out | exact HB2.out | (rw [← hW0, ← hW]; exact HB.out) | (rw [← hW0, ← hW, ← hW2]; exact HB2.out)⟩
  have hS4' : (S.size : Int) ≤ 2000 := by omega
  by_cases hT4 : T.size ≤ 2000
  rotate_left
  · have hT4' : (2000 : Int) < T.size := by omega
    go_enter Tryd.func33, Tryd.ntmps33
    go_wp2_with fail
    rw [← hW0, ← hW]
    refine H1.out.mono ?_
    rintro r w1 ⟨rfl, rfl⟩
    go_wp2_with fail
    rw [← hW0, ← hW, ← hW2]
    refine H3.out.mono ?_
    rintro r w2 ⟨rfl, rfl⟩
    go_wp2
    go_ret
    exact ⟨ret_bool (by first | exact HE.out.symm | (rw [HE.out]; simp; done) | (rw [HE.out]; simp [hF4, hS4]; omega) | (rw [HE.out]; simp; omega)), by first | exact HB.out | exact HB2.out | (rw [← hW0, ← hW]; exact HB.out) | (rw [← hW0, ← hW, ← hW2]; exact HB2.out)⟩
  have hT4' : (T.size : Int) ≤ 2000 := by omega
  go_enter Tryd.func33, Tryd.ntmps33
  go_wp2_with fail
  rw [← hW0, ← hW]
  refine H1.out.mono ?_
  rintro r w1 ⟨rfl, rfl⟩
  go_wp2_with fail
  rw [← hW0, ← hW, ← hW2]
  refine H3.out.mono ?_
  rintro r w2 ⟨rfl, rfl⟩
  go_wp2
  go_ret
  exact ⟨ret_bool (by first | exact HE.out.symm | (rw [HE.out]; simp; done) | (rw [HE.out]; simp [hF4, hS4]; omega) | (rw [HE.out]; simp; omega)), by first | exact HB.out | exact HB2.out | (rw [← hW0, ← hW]; exact HB.out) | (rw [← hW0, ← hW, ← hW2]; exact HB2.out)⟩
end Go.Proofs.YtolmngfjdcoapaaDoor.jok
