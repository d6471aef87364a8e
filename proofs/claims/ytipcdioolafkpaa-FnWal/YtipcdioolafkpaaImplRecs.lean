/- Contracts of the program's vote and base records. -/
import Derived.Test.YtipcdioolafkpaaRecs
namespace Go.Proofs.Ytipcdioolafkpaa.implrecs
open Go.ChangeShapes Go.WideShapes Go.ChangeAt Go.RowKit
open Go.Proofs.Ytipcdioolafkpaa.bytes Go.Proofs.Ytipcdioolafkpaa.pile Go.Proofs.Ytipcdioolafkpaa.put Go.Proofs.Ytipcdioolafkpaa.crcs Go.Proofs.Ytipcdioolafkpaa.join Go.Proofs.Ytipcdioolafkpaa.frames Go.Proofs.Ytipcdioolafkpaa.votes Go.Proofs.Ytipcdioolafkpaa.pays Go.Proofs.Ytipcdioolafkpaa.recs
set_option linter.unusedVariables false

theorem two_len (k a b : Int) : (twoA k a b).length ≤ 65550 := by
  unfold twoA
  split
  · rename_i h
    have ha : inB a = true := by revert h; cases inB a <;> simp
    have hb : inB b = true := by revert h; cases inB b <;> simp
    obtain ⟨T, rfl, hT⟩ := inB_nat ha
    obtain ⟨V, rfl, hV⟩ := inB_nat hb
    obtain ⟨l1, l2⟩ := pay_len T V hT hV
    rw [Int.toNat_natCast, Int.toNat_natCast]
    exact frameN_len (by simp; omega)
  · simp

set_option maxRecDepth 20000 in
set_option maxHeartbeats 1000000 in
theorem Vote_frame (w : World) (a b : Int) :
    Calls Try.prog 83 #[.iface 120 (.agg #[.int .i64 a, .int .i64 b])] w fun e w' => ∃ v, e = .returned (.tuple #[v, .int .i64 (twoC a b)]) ∧ Own w' w.heap.size v (twoA 1 a b) ∧ Below w.heap.size w w' := by
  have hm1 : ∀ (w : World) (a b : Int), (method 248 120 (.agg #[.int .i64 a, .int .i64 b]) "loop.example/g00142/impl.inBounds").run Try.prog w = .ok (81, .agg #[.int .i64 a, .int .i64 b]) w := fun _ _ _ => by kernel_rfl
  have hm2 : ∀ (w : World) (a b : Int), (method 248 120 (.agg #[.int .i64 a, .int .i64 b]) "loop.example/g00142/impl.payload").run Try.prog w = .ok (107, .agg #[.int .i64 a, .int .i64 b]) w := fun _ _ _ => by kernel_rfl
  rcases Bool.eq_false_or_eq_true (inB a && inB b) with hy | hy
  · rw [(two_yes (k := 1) hy).1, (two_yes (k := 1) hy).2]
    have ha : inB a = true := by revert hy; cases inB a <;> simp
    have hb : inB b = true := by revert hy; cases inB b <;> simp
    obtain ⟨T, rfl, hT⟩ := inB_nat ha
    obtain ⟨V, rfl, hV⟩ := inB_nat hb
    rw [Int.toNat_natCast, Int.toNat_natCast]
    have HY : Hid ((inB (T : Int) && inB (V : Int)) = true) := hy
    obtain ⟨l1, l2⟩ := pay_len T V hT hV
    clear ha hb hy
    go_enter Try.func83, Try.ntmps83
    go_wp2_with fail
    refine (vote_in w T V).mono ?_
    rintro e w1 ⟨rfl, b1⟩
    rw [HY.out]
    have s1 := b1.size
    go_wp2_with fail
    refine (vote_pay w1 T V hT hV).mono ?_
    rintro e w2 ⟨v2, rfl, HO2, b2⟩
    have s2 := b2.size
    go_wp2_with fail
    refine (implFrame_good w2 _ (1 :: (putN T ++ putN V)) (by simp; omega) (Own.rdA HO2)).mono ?_
    rintro e w3 ⟨v3, rfl, HO3, b3⟩
    have HF : Hid (Own w3 w.heap.size v3 (frameN (1 :: (putN T ++ putN V))) ∧ Below w.heap.size w w3) := ⟨HO3.mono (by omega), (b1.trans (b2.mono s1)).trans (b3.mono (by omega))⟩
    clear HO2 HO3 b2 b3 b1
    go_wp2
    go_ret2
    exact ⟨_, rfl, HF.out⟩
  · rw [(two_no (k := 1) hy).1, (two_no (k := 1) hy).2]
    have HY : Hid ((inB a && inB b) = false) := hy
    clear hy
    go_enter Try.func83, Try.ntmps83
    go_wp2_with fail
    refine (vote_in w a b).mono ?_
    rintro e w1 ⟨rfl, b1⟩
    rw [HY.out]
    go_wp2
    go_ret2
    exact ⟨_, rfl, ⟨by simp, World.ownsRow_nil _ _ _ _⟩, b1⟩

set_option maxHeartbeats 1000000 in
theorem implVote (w : World) (a b : Int) :
    Calls Try.prog 58 #[.int .i64 a, .int .i64 b] w fun e w' => ∃ v, e = .returned (.tuple #[v, .int .i64 (twoC a b)]) ∧ Own w' w.heap.size v (twoA 1 a b) ∧ Below w.heap.size w w' := by
  go_enter Try.func58, Try.ntmps58
  go_wp2_with fail
  refine (Vote_frame w a b).mono ?_
  rintro e w1 ⟨v, rfl, HO, hb⟩
  have HF : Hid (Own w1 w.heap.size v (twoA 1 a b) ∧ Below w.heap.size w w1) := ⟨HO, hb⟩
  clear HO hb
  go_wp2
  go_ret2
  exact ⟨_, rfl, HF.out⟩

set_option maxRecDepth 20000 in
set_option maxHeartbeats 1000000 in
theorem Base_frame (w : World) (a b : Int) :
    Calls Try.prog 83 #[.iface 127 (.agg #[.int .i64 a, .int .i64 b])] w fun e w' => ∃ v, e = .returned (.tuple #[v, .int .i64 (twoC a b)]) ∧ Own w' w.heap.size v (twoA 3 a b) ∧ Below w.heap.size w w' := by
  have hm1 : ∀ (w : World) (a b : Int), (method 248 127 (.agg #[.int .i64 a, .int .i64 b]) "loop.example/g00142/impl.inBounds").run Try.prog w = .ok (109, .agg #[.int .i64 a, .int .i64 b]) w := fun _ _ _ => by kernel_rfl
  have hm2 : ∀ (w : World) (a b : Int), (method 248 127 (.agg #[.int .i64 a, .int .i64 b]) "loop.example/g00142/impl.payload").run Try.prog w = .ok (110, .agg #[.int .i64 a, .int .i64 b]) w := fun _ _ _ => by kernel_rfl
  rcases Bool.eq_false_or_eq_true (inB a && inB b) with hy | hy
  · rw [(two_yes (k := 3) hy).1, (two_yes (k := 3) hy).2]
    have ha : inB a = true := by revert hy; cases inB a <;> simp
    have hb : inB b = true := by revert hy; cases inB b <;> simp
    obtain ⟨T, rfl, hT⟩ := inB_nat ha
    obtain ⟨V, rfl, hV⟩ := inB_nat hb
    rw [Int.toNat_natCast, Int.toNat_natCast]
    have HY : Hid ((inB (T : Int) && inB (V : Int)) = true) := hy
    obtain ⟨l1, l2⟩ := pay_len T V hT hV
    clear ha hb hy
    go_enter Try.func83, Try.ntmps83
    go_wp2_with fail
    refine (base_in w T V).mono ?_
    rintro e w1 ⟨rfl, b1⟩
    rw [HY.out]
    have s1 := b1.size
    go_wp2_with fail
    refine (base_pay w1 T V hT hV).mono ?_
    rintro e w2 ⟨v2, rfl, HO2, b2⟩
    have s2 := b2.size
    go_wp2_with fail
    refine (implFrame_good w2 _ (3 :: (putN T ++ putN V)) (by simp; omega) (Own.rdA HO2)).mono ?_
    rintro e w3 ⟨v3, rfl, HO3, b3⟩
    have HF : Hid (Own w3 w.heap.size v3 (frameN (3 :: (putN T ++ putN V))) ∧ Below w.heap.size w w3) := ⟨HO3.mono (by omega), (b1.trans (b2.mono s1)).trans (b3.mono (by omega))⟩
    clear HO2 HO3 b2 b3 b1
    go_wp2
    go_ret2
    exact ⟨_, rfl, HF.out⟩
  · rw [(two_no (k := 3) hy).1, (two_no (k := 3) hy).2]
    have HY : Hid ((inB a && inB b) = false) := hy
    clear hy
    go_enter Try.func83, Try.ntmps83
    go_wp2_with fail
    refine (base_in w a b).mono ?_
    rintro e w1 ⟨rfl, b1⟩
    rw [HY.out]
    go_wp2
    go_ret2
    exact ⟨_, rfl, ⟨by simp, World.ownsRow_nil _ _ _ _⟩, b1⟩

end Go.Proofs.Ytipcdioolafkpaa.implrecs
