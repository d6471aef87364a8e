/- Contracts of the functions that make a vote's and a base's record. -/
import Derived.Test.YtipcdioolafkpaaPays
namespace Go.Proofs.Ytipcdioolafkpaa.recs
open Go.ChangeShapes Go.WideShapes Go.ChangeAt Go.RowKit
open Go.Proofs.Ytipcdioolafkpaa.bytes Go.Proofs.Ytipcdioolafkpaa.pile Go.Proofs.Ytipcdioolafkpaa.put Go.Proofs.Ytipcdioolafkpaa.crcs Go.Proofs.Ytipcdioolafkpaa.join Go.Proofs.Ytipcdioolafkpaa.frames Go.Proofs.Ytipcdioolafkpaa.votes Go.Proofs.Ytipcdioolafkpaa.pays
set_option linter.unusedVariables false

theorem in_any (w : World) (n lo hi : Int) : Calls Try.prog 70 #[.int .i64 n, .int .i64 lo, .int .i64 hi] w fun e w' => e = .returned (.bool (decide (lo ≤ n ∧ n ≤ hi))) ∧ w' = w := by
  by_cases h1 : lo ≤ n
  · by_cases h2 : n ≤ hi
    · have hd : decide (lo ≤ n ∧ n ≤ hi) = true := by simp [h1, h2]
      rw [hd]
      go_enter Try.func70, Try.ntmps70
      go_wp2
      go_ret
      exact ⟨rfl, rfl⟩
    · have hd : decide (lo ≤ n ∧ n ≤ hi) = false := by simp [h1, h2]
      rw [hd]
      have h2' : hi < n := by omega
      go_enter Try.func70, Try.ntmps70
      go_wp2
      go_ret
      exact ⟨rfl, rfl⟩
  · have hd : decide (lo ≤ n ∧ n ≤ hi) = false := by simp [h1]
    rw [hd]
    have h1' : n < lo := by omega
    go_enter Try.func70, Try.ntmps70
    go_wp2
    go_ret
    exact ⟨rfl, rfl⟩

theorem lit_own (w : World) (x : Int) (hx : 0 ≤ x ∧ x ≤ 255) : Own (w.alloc (.cells #[.int .u8 x] 5)) w.heap.size (.slice (some ⟨w.heap.size, 0, none⟩) 1 1) [x] :=
  ⟨by simpa using hx, World.ownsRow_lit w #[.int .u8 x] 1 (Nat.le_refl _) (by simp [maxLen]) (by simp)⟩

/-- What a record of two numbers is, and its code. -/
def twoA (k : Int) (a b : Int) : List Int := if (inB a && inB b) = true then frameN (k :: (putN a.toNat ++ putN b.toNat)) else []
def twoC (a b : Int) : Int := if (inB a && inB b) = true then 0 else 5
theorem two_yes {k a b : Int} (h : (inB a && inB b) = true) : twoA k a b = frameN (k :: (putN a.toNat ++ putN b.toNat)) ∧ twoC a b = 0 := by simp [twoA, twoC, h]
theorem two_no {k a b : Int} (h : (inB a && inB b) = false) : twoA k a b = [] ∧ twoC a b = 5 := by simp [twoA, twoC, h]
theorem inB_nat {a : Int} (h : inB a = true) : ∃ T : Nat, a = (T : Int) ∧ T ≤ 1000000 := by
  simp only [inB, decide_eq_true_eq] at h
  exact ⟨a.toNat, by omega, by omega⟩
theorem pay_len (T V : Nat) (hT : T ≤ 1000000) (hV : V ≤ 1000000) : (putN T).length ≤ 10 ∧ (putN V).length ≤ 10 := ⟨putN_len 9 T (by omega), putN_len 9 V (by omega)⟩

set_option maxHeartbeats 1000000 in
theorem Vote_spec (w : World) (T V : Nat) (hT : T ≤ 1000000) (hV : V ≤ 1000000) :
    Calls Try.prog 72 #[.int .i64 T, .int .i64 V] w fun e w' => ∃ v, e = .returned v ∧ Own w' w.heap.size v (frameN (1 :: (putN T ++ putN V))) ∧ Below w.heap.size w w' := by
  obtain ⟨l1, l2⟩ := pay_len T V hT hV
  have HL0 : Hid (Own (w.alloc (.cells #[.int .u8 1] 5)) w.heap.size (.slice (some ⟨w.heap.size, 0, none⟩) 1 1) [1] ∧ Below w.heap.size w (w.alloc (.cells #[.int .u8 1] 5))) := ⟨lit_own w 1 (by decide), (Below.refl _ _).alloc (Nat.le_refl _) _⟩
  go_enter Try.func72, Try.ntmps72
  go_wp2_with fail
  refine (l01Put_own T _ (by unfold maxLen; omega)).mono ?_
  rintro e w1 ⟨v1, rfl, HO1, hb1⟩
  have HW1 : Hid (Own w1 w.heap.size (.slice (some ⟨w.heap.size, 0, none⟩) 1 1) [1] ∧ RdA w1 v1 (putN T) ∧ Below w.heap.size w w1) := ⟨HL0.out.1.below hb1 (Nat.le_refl _), Own.rdA HO1, HL0.out.2.trans (hb1.mono (by simp))⟩
  have hs1 := HW1.out.2.2.size
  clear HO1 hb1
  go_wp2_with (at_builtin; refine wpList_append_rd _ rfl _ _ 22 rfl Try.underlying22 info5 w.heap.size _ _ rfl HW1.out.1 _ (putN T) rfl HW1.out.2.1 (by simp; omega) hs1 ?_; intro v2 w2 hown2 hgrow2)
  have HW2 : Hid (Own w2 w.heap.size v2 ([1] ++ putN T) ∧ Below w.heap.size w w2) := ⟨hown2, HW1.out.2.2.grown hgrow2 hs1 (fun k hk => (HW1.out.1.lt k hk).1)⟩
  clear hown2 hgrow2 HW1
  refine (l01Put_own V _ (by unfold maxLen; omega)).mono ?_
  rintro e w3 ⟨v3, rfl, HO3, hb3⟩
  have hs2 := HW2.out.2.size
  have HW3 : Hid (Own w3 w.heap.size v2 ([1] ++ putN T) ∧ RdA w3 v3 (putN V) ∧ Below w.heap.size w w3) := ⟨HW2.out.1.below hb3 (Nat.le_refl _), Own.rdA HO3, HW2.out.2.trans (hb3.mono hs2)⟩
  have hs3 := HW3.out.2.2.size
  clear HO3 hb3 HW2
  go_wp2_with (at_builtin; refine wpList_append_rd _ rfl _ _ 22 rfl Try.underlying22 info5 w.heap.size _ _ rfl HW3.out.1 _ (putN V) rfl HW3.out.2.1 (by simp; omega) hs3 ?_; intro v4 w4 hown4 hgrow4)
  have HW4 : Hid (Own w4 w.heap.size v4 (1 :: (putN T ++ putN V)) ∧ Below w.heap.size w w4) := ⟨by simpa using hown4, HW3.out.2.2.grown hgrow4 hs3 (fun k hk => (HW3.out.1.lt k hk).1)⟩
  have hs4 := HW4.out.2.size
  clear hown4 hgrow4 HW3
  refine (l01Frame_own _ _ (1 :: (putN T ++ putN V)) (by simp; omega) (Own.rdA HW4.out.1)).mono ?_
  rintro e w5 ⟨v5, rfl, HO5, hb5⟩
  have HF : Hid (Own w5 w.heap.size v5 (frameN (1 :: (putN T ++ putN V))) ∧ Below w.heap.size w w5) := ⟨HO5.mono hs4, HW4.out.2.trans (hb5.mono hs4)⟩
  clear HO5 hb5
  go_wp2
  go_ret
  exact ⟨_, rfl, HF.out⟩

set_option maxHeartbeats 1000000 in
theorem Base_spec (w : World) (T V : Nat) (hT : T ≤ 1000000) (hV : V ≤ 1000000) :
    Calls Try.prog 74 #[.int .i64 T, .int .i64 V] w fun e w' => ∃ v, e = .returned v ∧ Own w' w.heap.size v (frameN (3 :: (putN T ++ putN V))) ∧ Below w.heap.size w w' := by
  obtain ⟨l1, l2⟩ := pay_len T V hT hV
  have HL0 : Hid (Own (w.alloc (.cells #[.int .u8 3] 5)) w.heap.size (.slice (some ⟨w.heap.size, 0, none⟩) 1 1) [3] ∧ Below w.heap.size w (w.alloc (.cells #[.int .u8 3] 5))) := ⟨lit_own w 3 (by decide), (Below.refl _ _).alloc (Nat.le_refl _) _⟩
  go_enter Try.func74, Try.ntmps74
  go_wp2_with fail
  refine (l01Put_own T _ (by unfold maxLen; omega)).mono ?_
  rintro e w1 ⟨v1, rfl, HO1, hb1⟩
  have HW1 : Hid (Own w1 w.heap.size (.slice (some ⟨w.heap.size, 0, none⟩) 1 1) [3] ∧ RdA w1 v1 (putN T) ∧ Below w.heap.size w w1) := ⟨HL0.out.1.below hb1 (Nat.le_refl _), Own.rdA HO1, HL0.out.2.trans (hb1.mono (by simp))⟩
  have hs1 := HW1.out.2.2.size
  clear HO1 hb1
  go_wp2_with (at_builtin; refine wpList_append_rd _ rfl _ _ 22 rfl Try.underlying22 info5 w.heap.size _ _ rfl HW1.out.1 _ (putN T) rfl HW1.out.2.1 (by simp; omega) hs1 ?_; intro v2 w2 hown2 hgrow2)
  have HW2 : Hid (Own w2 w.heap.size v2 ([3] ++ putN T) ∧ Below w.heap.size w w2) := ⟨hown2, HW1.out.2.2.grown hgrow2 hs1 (fun k hk => (HW1.out.1.lt k hk).1)⟩
  clear hown2 hgrow2 HW1
  refine (l01Put_own V _ (by unfold maxLen; omega)).mono ?_
  rintro e w3 ⟨v3, rfl, HO3, hb3⟩
  have hs2 := HW2.out.2.size
  have HW3 : Hid (Own w3 w.heap.size v2 ([3] ++ putN T) ∧ RdA w3 v3 (putN V) ∧ Below w.heap.size w w3) := ⟨HW2.out.1.below hb3 (Nat.le_refl _), Own.rdA HO3, HW2.out.2.trans (hb3.mono hs2)⟩
  have hs3 := HW3.out.2.2.size
  clear HO3 hb3 HW2
  go_wp2_with (at_builtin; refine wpList_append_rd _ rfl _ _ 22 rfl Try.underlying22 info5 w.heap.size _ _ rfl HW3.out.1 _ (putN V) rfl HW3.out.2.1 (by simp; omega) hs3 ?_; intro v4 w4 hown4 hgrow4)
  have HW4 : Hid (Own w4 w.heap.size v4 (3 :: (putN T ++ putN V)) ∧ Below w.heap.size w w4) := ⟨by simpa using hown4, HW3.out.2.2.grown hgrow4 hs3 (fun k hk => (HW3.out.1.lt k hk).1)⟩
  have hs4 := HW4.out.2.size
  clear hown4 hgrow4 HW3
  refine (l01Frame_own _ _ (3 :: (putN T ++ putN V)) (by simp; omega) (Own.rdA HW4.out.1)).mono ?_
  rintro e w5 ⟨v5, rfl, HO5, hb5⟩
  have HF : Hid (Own w5 w.heap.size v5 (frameN (3 :: (putN T ++ putN V))) ∧ Below w.heap.size w w5) := ⟨HO5.mono hs4, HW4.out.2.trans (hb5.mono hs4)⟩
  clear HO5 hb5
  go_wp2
  go_ret
  exact ⟨_, rfl, HF.out⟩

end Go.Proofs.Ytipcdioolafkpaa.recs
