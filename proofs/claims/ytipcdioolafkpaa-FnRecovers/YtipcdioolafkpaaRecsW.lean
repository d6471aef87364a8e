/- The model's records, for numbers that are a little above the bounds. -/
import Derived.Test.YtipcdioolafkpaaEntPays
namespace Go.Proofs.Ytipcdioolafkpaa.recsw
open Go.ChangeShapes Go.WideShapes Go.ChangeAt Go.RowKit
open Go.Proofs.Ytipcdioolafkpaa.bytes Go.Proofs.Ytipcdioolafkpaa.pile Go.Proofs.Ytipcdioolafkpaa.put Go.Proofs.Ytipcdioolafkpaa.crcs Go.Proofs.Ytipcdioolafkpaa.join Go.Proofs.Ytipcdioolafkpaa.frames Go.Proofs.Ytipcdioolafkpaa.votes Go.Proofs.Ytipcdioolafkpaa.pays Go.Proofs.Ytipcdioolafkpaa.recs Go.Proofs.Ytipcdioolafkpaa.steps Go.Proofs.Ytipcdioolafkpaa.entries
open Go.Proofs.Ytipcdioolafkpaa.entpays
set_option linter.unusedVariables false

theorem pay_lenW (T V : Nat) (hT : T ≤ 2000000) (hV : V ≤ 2000000) : (putN T).length ≤ 10 ∧ (putN V).length ≤ 10 := ⟨putN_len 9 T (by omega), putN_len 9 V (by omega)⟩

set_option maxHeartbeats 2000000 in
theorem Vote_spec (w : World) (T V : Nat) (hT : T ≤ 2000000) (hV : V ≤ 2000000) :
    Calls Try.prog 72 #[.int .i64 T, .int .i64 V] w fun e w' => ∃ v, e = .returned v ∧ Own w' w.heap.size v (frameN (1 :: (putN T ++ putN V))) ∧ Below w.heap.size w w' := by
  obtain ⟨l1, l2⟩ := pay_lenW T V hT hV
  have HL0 : Hid (Own (w.alloc (.cells #[.int .u8 1] 5)) w.heap.size (.slice (some ⟨w.heap.size, 0, none⟩) 1 1) [1] ∧ Below w.heap.size w (w.alloc (.cells #[.int .u8 1] 5))) := ⟨lit_own w 1 (by decide), (Below.refl _ _).alloc (Nat.le_refl _) _⟩
  go_enter Try.func72, Try.ntmps72
  go_wp2_with fail
  refine (l01Put_own T _ (by unfold maxLen; omega)).mono ?_
  rintro e w1 ⟨v1, rfl, HO1, hb1⟩
  have HW1 : Hid (Own w1 w.heap.size (.slice (some ⟨w.heap.size, 0, none⟩) 1 1) [1] ∧ RdA w1 v1 (putN T) ∧ Below w.heap.size w w1) := ⟨HL0.out.1.below hb1 (Nat.le_refl _), Own.rdA HO1, HL0.out.2.trans (hb1.mono (by simp))⟩
  have hs1 := HW1.out.2.2.size
  clear HO1 hb1
  go_wp2_with (at_builtin; refine wpList_append_rd _ rfl _ _ 22 rfl Try.underlying22 info5 w.heap.size _ _ rfl HW1.out.1 _ (putN T) rfl HW1.out.2.1 (by simp; omega) hs1 ?_; intro v2 w2 hown2 hgrow2)
  have HW2 : Hid (Own w2 w.heap.size v2 ([1] ++ putN T) ∧ Below w.heap.size w w2) := ⟨hown2, HW1.out.2.2.grown hgrow2 hs1 (fun k hk => (HW1.out.1.lt k hk).1)⟩
  clear hown2 hgrow2 HW1
  refine (l01Put_own V _ (by unfold maxLen; omega)).mono ?_
  rintro e w3 ⟨v3, rfl, HO3, hb3⟩
  have hs2 := HW2.out.2.size
  have HW3 : Hid (Own w3 w.heap.size v2 ([1] ++ putN T) ∧ RdA w3 v3 (putN V) ∧ Below w.heap.size w w3) := ⟨HW2.out.1.below hb3 (Nat.le_refl _), Own.rdA HO3, HW2.out.2.trans (hb3.mono hs2)⟩
  have hs3 := HW3.out.2.2.size
  clear HO3 hb3 HW2
  go_wp2_with (at_builtin; refine wpList_append_rd _ rfl _ _ 22 rfl Try.underlying22 info5 w.heap.size _ _ rfl HW3.out.1 _ (putN V) rfl HW3.out.2.1 (by simp; omega) hs3 ?_; intro v4 w4 hown4 hgrow4)
  have HW4 : Hid (Own w4 w.heap.size v4 (1 :: (putN T ++ putN V)) ∧ Below w.heap.size w w4) := ⟨by simpa using hown4, HW3.out.2.2.grown hgrow4 hs3 (fun k hk => (HW3.out.1.lt k hk).1)⟩
  have hs4 := HW4.out.2.size
  clear hown4 hgrow4 HW3
  refine (l01Frame_own _ _ (1 :: (putN T ++ putN V)) (by simp; omega) (Own.rdA HW4.out.1)).mono ?_
  rintro e w5 ⟨v5, rfl, HO5, hb5⟩
  have HF : Hid (Own w5 w.heap.size v5 (frameN (1 :: (putN T ++ putN V))) ∧ Below w.heap.size w w5) := ⟨HO5.mono hs4, HW4.out.2.trans (hb5.mono hs4)⟩
  clear HO5 hb5
  go_wp2
  go_ret
  exact ⟨_, rfl, HF.out⟩

set_option maxHeartbeats 2000000 in
theorem Base_spec (w : World) (T V : Nat) (hT : T ≤ 2000000) (hV : V ≤ 2000000) :
    Calls Try.prog 74 #[.int .i64 T, .int .i64 V] w fun e w' => ∃ v, e = .returned v ∧ Own w' w.heap.size v (frameN (3 :: (putN T ++ putN V))) ∧ Below w.heap.size w w' := by
  obtain ⟨l1, l2⟩ := pay_lenW T V hT hV
  have HL0 : Hid (Own (w.alloc (.cells #[.int .u8 3] 5)) w.heap.size (.slice (some ⟨w.heap.size, 0, none⟩) 1 1) [3] ∧ Below w.heap.size w (w.alloc (.cells #[.int .u8 3] 5))) := ⟨lit_own w 3 (by decide), (Below.refl _ _).alloc (Nat.le_refl _) _⟩
  go_enter Try.func74, Try.ntmps74
  go_wp2_with fail
  refine (l01Put_own T _ (by unfold maxLen; omega)).mono ?_
  rintro e w1 ⟨v1, rfl, HO1, hb1⟩
  have HW1 : Hid (Own w1 w.heap.size (.slice (some ⟨w.heap.size, 0, none⟩) 1 1) [3] ∧ RdA w1 v1 (putN T) ∧ Below w.heap.size w w1) := ⟨HL0.out.1.below hb1 (Nat.le_refl _), Own.rdA HO1, HL0.out.2.trans (hb1.mono (by simp))⟩
  have hs1 := HW1.out.2.2.size
  clear HO1 hb1
  go_wp2_with (at_builtin; refine wpList_append_rd _ rfl _ _ 22 rfl Try.underlying22 info5 w.heap.size _ _ rfl HW1.out.1 _ (putN T) rfl HW1.out.2.1 (by simp; omega) hs1 ?_; intro v2 w2 hown2 hgrow2)
  have HW2 : Hid (Own w2 w.heap.size v2 ([3] ++ putN T) ∧ Below w.heap.size w w2) := ⟨hown2, HW1.out.2.2.grown hgrow2 hs1 (fun k hk => (HW1.out.1.lt k hk).1)⟩
  clear hown2 hgrow2 HW1
  refine (l01Put_own V _ (by unfold maxLen; omega)).mono ?_
  rintro e w3 ⟨v3, rfl, HO3, hb3⟩
  have hs2 := HW2.out.2.size
  have HW3 : Hid (Own w3 w.heap.size v2 ([3] ++ putN T) ∧ RdA w3 v3 (putN V) ∧ Below w.heap.size w w3) := ⟨HW2.out.1.below hb3 (Nat.le_refl _), Own.rdA HO3, HW2.out.2.trans (hb3.mono hs2)⟩
  have hs3 := HW3.out.2.2.size
  clear HO3 hb3 HW2
  go_wp2_with (at_builtin; refine wpList_append_rd _ rfl _ _ 22 rfl Try.underlying22 info5 w.heap.size _ _ rfl HW3.out.1 _ (putN V) rfl HW3.out.2.1 (by simp; omega) hs3 ?_; intro v4 w4 hown4 hgrow4)
  have HW4 : Hid (Own w4 w.heap.size v4 (3 :: (putN T ++ putN V)) ∧ Below w.heap.size w w4) := ⟨by simpa using hown4, HW3.out.2.2.grown hgrow4 hs3 (fun k hk => (HW3.out.1.lt k hk).1)⟩
  have hs4 := HW4.out.2.size
  clear hown4 hgrow4 HW3
  refine (l01Frame_own _ _ (3 :: (putN T ++ putN V)) (by simp; omega) (Own.rdA HW4.out.1)).mono ?_
  rintro e w5 ⟨v5, rfl, HO5, hb5⟩
  have HF : Hid (Own w5 w.heap.size v5 (frameN (3 :: (putN T ++ putN V))) ∧ Below w.heap.size w w5) := ⟨HO5.mono hs4, HW4.out.2.trans (hb5.mono hs4)⟩
  clear HO5 hb5
  go_wp2
  go_ret
  exact ⟨_, rfl, HF.out⟩

set_option maxRecDepth 20000 in
set_option maxHeartbeats 2000000 in
theorem entry_spec (w : World) (T I : Nat) (u : Value) (ys : List Int) (hT : T ≤ 2000000) (hI : I ≤ 2000000) (hu : RdA w u ys) (hn : ys.length ≤ 1000) :
    Calls Try.prog 73 #[.agg #[.int .i64 T, .int .i64 I, u]] w fun e w' => ∃ v, e = .returned v ∧ Own w' w.heap.size v (frameN (2 :: (putN T ++ (putN I ++ ys)))) ∧ Below w.heap.size w w' := by
  have HU : Hid (RdA w u ys) := hu
  obtain ⟨⟨uo, uc, rfl, _⟩, _⟩ := hu
  obtain ⟨W, hW⟩ : ∃ W, W = w.alloc (.cells #[.int .i64 T, .int .i64 I, .slice uo ys.length uc] 92) := ⟨_, rfl⟩
  have hb0 : Below w.heap.size w W := by rw [hW]; exact (Below.refl _ _).alloc (Nat.le_refl _) _
  have hk : W.heap[w.heap.size]? = some (.cells #[.int .i64 T, .int .i64 I, .slice uo ys.length uc] 92 (0, 0)) := by rw [hW]; exact heap_alloc_new w _
  have d0 : W.cell? ⟨w.heap.size, 0, none⟩ = some (.int .i64 T) := by simp [World.cell?, hk]
  have d1 : W.cell? ⟨w.heap.size, 1, none⟩ = some (.int .i64 I) := by simp [World.cell?, hk]
  have d2 : W.cell? ⟨w.heap.size, 2, none⟩ = some (.slice uo ys.length uc) := by simp [World.cell?, hk]
  have HS : Hid (∀ wx, Below W.heap.size W wx → (wx.cell? ⟨w.heap.size, 0, none⟩ = some (.int .i64 T) ∧ wx.cell? ⟨w.heap.size, 1, none⟩ = some (.int .i64 I)) ∧ Below W.heap.size W wx) := fun wx h => ⟨⟨cell_at h d0 (Nat.le_refl _), cell_at h d1 (Nat.le_refl _)⟩, h⟩
  have HS2 : Hid (∀ wx, Below W.heap.size W wx → wx.cell? ⟨w.heap.size, 2, none⟩ = some (.slice uo ys.length uc)) := fun wx h => cell_at h d2 (Nat.le_refl _)
  have HN : Hid (∀ n : Nat, n ≤ 2000000 → ∀ wx, Below W.heap.size W wx → Calls Try.prog 34 #[.int .i64 n] wx fun e w' => ∃ o c, e = .returned (.slice o (putN n).length c) ∧ Hid (Own w' wx.heap.size (.slice o (putN n).length c) (putN n)) ∧ Hid (Below wx.heap.size wx w') ∧ Below W.heap.size W w' ∧ W.heap.size ≤ w'.heap.size) := fun n hn wx hb => by
    refine (l01Put_own n wx (by unfold maxLen; omega)).mono ?_
    rintro e w' ⟨v, rfl, HO, hB⟩
    obtain ⟨o, c, e, _⟩ := HO.rd
    subst e
    have hq := hb.trans (hB.mono hb.size)
    exact ⟨o, c, rfl, HO, hB, hq, hq.size⟩
  obtain ⟨hl1, hl2⟩ := pay_lenW T I hT hI
  have HEnd : Hid (Below w.heap.size w W) := hb0
  have hs0 : w.heap.size ≤ W.heap.size := hb0.size
  have HGrow : Hid (∀ wx w' v (xs : List Int), Below W.heap.size W wx → Own wx W.heap.size v xs → wx.grownBy w' v.ownBlock → Below W.heap.size W w') := fun wx w' v xs h ho hg => h.grown hg h.size (fun k hk => (ho.lt k hk).1)
  have HG2 : Hid (∀ (wx w' : World) (k : Nat), Below W.heap.size W wx → W.heap.size ≤ k → wx.grownBy w' (Value.slice (some ⟨k, 0, none⟩) 1 1).ownBlock → Below W.heap.size W w') := fun wx w' k h hk hg => h.grown hg h.size (fun j hj => by simp [Value.ownBlock] at hj; omega)
  clear hb0 hk
  go_enter Try.func73, Try.ntmps73
  go_wp2
  rw [← hW]
  clear hW
  go_region_held_law (fun wx => (wx.cell? ⟨w.heap.size, 0, none⟩ = some (.int .i64 T) ∧ wx.cell? ⟨w.heap.size, 1, none⟩ = some (.int .i64 I)) ∧ Below W.heap.size W wx)
    ((refine HS.out _ ?_; first | assumption | exact (Below.refl _ _).drew | exact more (by assumption) _ | exact more (more (by assumption) _) _ | exact more (more (more (by assumption) _) _) _ | exact more ((Below.refl _ _).drew) _))
    (first
      | (go_at_call 34; have _h1 := B1; refine (HN.out _ (by omega) _ (by first | assumption | exact And.right (by assumption) | exact more (by assumption) _ | exact more (more (by assumption) _) _)).mono ?_; rintro e w2 ⟨o2, c2, rfl, R2, B2, D2, s2⟩)
      | (go_at_call 34; refine (HN.out _ (by omega) _ (by first | assumption | exact And.right (by assumption) | exact more (by assumption) _ | exact more (more (by assumption) _) _)).mono ?_; rintro e w1 ⟨o1, c1, rfl, R1, B1, D1, s1⟩)
      | (have _h8 := H8; refine step_append_rd _ rfl _ _ 22 rfl Try.underlying22 info5 W.heap.size _ ([2] ++ putN T) rfl (by first | exact H8.out | exact H8.out.below B2.out (Nat.le_refl _)) _ (putN I) rfl (by first | exact R28.out | exact Own.rdA R2.out) (by simp; omega) (by first | omega | (simp; omega)) ?_; intro v9 w9 O9 G9; have D9 : Below W.heap.size W w9 := HGrow.out _ _ _ _ (by first | assumption | exact And.right (by assumption) | exact more (by assumption) _ | exact more (more (by assumption) _) _) (by first | exact H8.out | exact H8.out.below B2.out (Nat.le_refl _)) G9; have H9 : Hid (Own w9 W.heap.size v9 (([2] ++ putN T) ++ putN I)) := O9; clear O9 G9)
      | (have _h2 := B2; refine step_append_rd _ rfl _ _ 22 rfl Try.underlying22 info5 W.heap.size _ [2] rfl (lit_at (by first
            | exact kept B2.out (kept B1.out (by exact new_at (by first | rfl | simp)) (Nat.le_refl _)) (Nat.le_refl _)
            | exact kept B2.out (by exact new_at (by first | rfl | simp)) (Nat.le_refl _)
            | exact new_at (by first | rfl | simp)) (by first | exact Nat.le_refl _ | assumption | omega) (by decide)) _ (putN T) rfl (by first
            | exact (Own.rdA R1.out).below B2.out (Nat.le_refl _)
            | exact ((Own.rdA R1.out).below (more (Below.refl _ _) _) (Nat.le_refl _)).below B2.out (Nat.le_refl _)
            | exact ((Own.rdA R1.out).below B2.out (Nat.le_refl _)).below (more (Below.refl _ _) _) (Nat.le_refl _)) (by simp; omega) (by first | omega | (simp; omega)) ?_
         intro v8 w8 O8 G8
         have D8 : Below W.heap.size W w8 := HG2.out _ _ _ (by first | assumption | exact And.right (by assumption) | exact more (by assumption) _ | exact more (more (by assumption) _) _) (by first | exact Nat.le_refl _ | assumption | omega) G8
         have s8 := D8.size
         have R28 : Hid (RdA w8 (.slice o2 (putN I).length c2) (putN I)) := by
           first
             | exact Own.rdA (lit_other R2.out (by have z := B1.out.size; simp at z; omega) G8)
             | exact Own.rdA (lit_other R2.out (by simp) G8)
             | exact Own.rdA (lit_above (R2.out.below (more (Below.refl _ _) _) (Nat.le_refl _)) (fun k hk => (R2.out.lt k hk).2) G8)
         have H8 : Hid (Own w8 W.heap.size v8 ([2] ++ putN T)) := O8
         clear O8 G8)
      | (refine step_append_rd _ rfl _ _ 22 rfl Try.underlying22 info5 W.heap.size _ [2] rfl (lit_at (by first
            | exact kept B1.out (by exact new_at (by first | rfl | simp)) (Nat.le_refl _)
            | exact new_at (by first | rfl | simp)) (by first | exact Nat.le_refl _ | assumption | omega) (by decide)) _ (putN T) rfl (by first
            | exact (Own.rdA R1.out)
            | exact ((Own.rdA R1.out).below (more (Below.refl _ _) _) (Nat.le_refl _))) (by simp; omega) (by first | omega | (simp; omega)) ?_
         intro v8 w8 O8 G8
         have D8 : Below W.heap.size W w8 := HG2.out _ _ _ (by first | assumption | exact And.right (by assumption) | exact more (by assumption) _ | exact more (more (by assumption) _) _) (by first | exact Nat.le_refl _ | assumption | omega) G8
         have s8 := D8.size
         have H8 : Hid (Own w8 W.heap.size v8 ([2] ++ putN T)) := O8
         clear O8 G8))
  all_goals
    have hs9 := D9.size
    have c9 := HS2.out _ D9
    have HU9 : Hid (RdA w9 (.slice uo ys.length uc) ys) := HU.out.below (HEnd.out.trans (D9.mono hs0)) (Nat.le_refl _)
    go_wp2_with (at_builtin; refine wpList_append_rd _ rfl _ _ 22 rfl Try.underlying22 info5 W.heap.size _ _ rfl H9.out _ ys rfl HU9.out (by simp; omega) hs9 ?_; intro v10 w10 O10 G10)
    have H10 : Hid (Own w10 W.heap.size v10 (2 :: (putN T ++ (putN I ++ ys))) ∧ Below W.heap.size W w10) := ⟨by simpa using O10, HGrow.out _ _ _ _ D9 H9.out G10⟩
    clear O10 G10 H9 D9
    have hs10 := H10.out.2.size
    refine (l01Frame_own w10 _ (2 :: (putN T ++ (putN I ++ ys))) (by simp; omega) (Own.rdA H10.out.1)).mono ?_
    rintro e w11 ⟨v11, rfl, O11, b11⟩
    have HF : Hid (Own w11 w.heap.size v11 (frameN (2 :: (putN T ++ (putN I ++ ys)))) ∧ Below w.heap.size w w11) := ⟨O11.mono (by omega), (HEnd.out.trans (H10.out.2.mono hs0)).trans (b11.mono (by omega))⟩
    clear O11 b11
    go_wp2
    go_ret
    exact ⟨_, rfl, HF.out⟩
end Go.Proofs.Ytipcdioolafkpaa.recsw
