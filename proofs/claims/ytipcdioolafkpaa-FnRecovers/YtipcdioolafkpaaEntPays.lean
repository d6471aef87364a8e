/- Contracts of an entry's payload and frame. -/
import Derived.Test.YtipcdioolafkpaaEntries
namespace Go.Proofs.Ytipcdioolafkpaa.entpays
open Go.ChangeShapes Go.WideShapes Go.ChangeAt Go.RowKit
open Go.Proofs.Ytipcdioolafkpaa.bytes Go.Proofs.Ytipcdioolafkpaa.pile Go.Proofs.Ytipcdioolafkpaa.put Go.Proofs.Ytipcdioolafkpaa.crcs Go.Proofs.Ytipcdioolafkpaa.join Go.Proofs.Ytipcdioolafkpaa.frames Go.Proofs.Ytipcdioolafkpaa.votes Go.Proofs.Ytipcdioolafkpaa.pays Go.Proofs.Ytipcdioolafkpaa.recs Go.Proofs.Ytipcdioolafkpaa.steps Go.Proofs.Ytipcdioolafkpaa.entries
set_option linter.unusedVariables false

/-- join of four pieces, the first a byte. -/
theorem join_four (wx : World) (B k : Nat) (x : Int) (hx : 0 ≤ x ∧ x ≤ 255) (o1 o2 o3 : Option Addr) (n1 n2 n3 c1 c2 c3 : Nat) (ys zs us : List Int) (hB : wx.heap[B]? = some (.cells #[.slice (some ⟨k, 0, none⟩) 1 1, .slice o1 n1 c1, .slice o2 n2 c2, .slice o3 n3 c3] 22 (0, 0)))
    (hk : wx.heap[k]? = some (.cells #[.int .u8 x] 5 (0, 0))) (h1 : RdA wx (.slice o1 n1 c1) ys) (h2 : RdA wx (.slice o2 n2 c2) zs) (h3 : RdA wx (.slice o3 n3 c3) us) (hl : ys.length + zs.length + us.length ≤ 65536) :
    Calls Try.prog 40 #[.slice (some ⟨B, 0, none⟩) 4 4] wx fun e w' => ∃ v, e = .returned v ∧ Own w' wx.heap.size v (x :: (ys ++ (zs ++ us))) ∧ Below wx.heap.size wx w' := by
  have h := join_own wx (.slice (some ⟨B, 0, none⟩) 4 4) [.slice (some ⟨k, 0, none⟩) 1 1, .slice o1 n1 c1, .slice o2 n2 c2, .slice o3 n3 c3] [[x], ys, zs, us] ⟨_, _, rfl, Nat.le_refl _, by simp [maxLen], fun _ => ⟨B, 0, rfl, fun i hi => by
      have h3 : i = 0 ∨ i = 1 ∨ i = 2 ∨ i = 3 := by simp at hi; omega
      rcases h3 with rfl | rfl | rfl | rfl <;> simp [World.cell?, hB]⟩⟩ ⟨rfl, fun i hi => by
      have h3 : i = 0 ∨ i = 1 ∨ i = 2 ∨ i = 3 := by simp at hi; omega
      rcases h3 with rfl | rfl | rfl | rfl
      · exact lit_rdA hk hx
      · exact h1
      · exact h2
      · assumption⟩ (by simp; omega)
  simpa using h

set_option maxRecDepth 20000 in
set_option maxHeartbeats 2000000 in
theorem entry_pay (w : World) (T I : Nat) (u : Value) (ys : List Int) (hT : T ≤ 1000000) (hI : I ≤ 1000000) (hu : RdA w u ys) (hn : ys.length ≤ 1000) :
    Calls Try.prog 108 #[.agg #[.int .i64 T, .int .i64 I, u]] w fun e w' => ∃ v, e = .returned v ∧ Own w' w.heap.size v (2 :: (putN T ++ (putN I ++ ys))) ∧ Below w.heap.size w w' := by
  have HU : Hid (RdA w u ys) := hu
  obtain ⟨⟨uo, uc, rfl, _⟩, _⟩ := hu
  obtain ⟨W, hW⟩ : ∃ W, W = w.alloc (.cells #[.int .i64 T, .int .i64 I, .slice uo ys.length uc] 122) := ⟨_, rfl⟩
  have hb0 : Below w.heap.size w W := by rw [hW]; exact (Below.refl _ _).alloc (Nat.le_refl _) _
  have hk : W.heap[w.heap.size]? = some (.cells #[.int .i64 T, .int .i64 I, .slice uo ys.length uc] 122 (0, 0)) := by rw [hW]; exact heap_alloc_new w _
  have d0 : W.cell? ⟨w.heap.size, 0, none⟩ = some (.int .i64 T) := by simp [World.cell?, hk]
  have d1 : W.cell? ⟨w.heap.size, 1, none⟩ = some (.int .i64 I) := by simp [World.cell?, hk]
  have d2 : W.cell? ⟨w.heap.size, 2, none⟩ = some (.slice uo ys.length uc) := by simp [World.cell?, hk]
  have HS : Hid (∀ wx, Below W.heap.size W wx → (wx.cell? ⟨w.heap.size, 0, none⟩ = some (.int .i64 T) ∧ wx.cell? ⟨w.heap.size, 1, none⟩ = some (.int .i64 I) ∧ wx.cell? ⟨w.heap.size, 2, none⟩ = some (.slice uo ys.length uc)) ∧ Below W.heap.size W wx) := fun wx h => ⟨⟨cell_at h d0 (Nat.le_refl _), cell_at h d1 (Nat.le_refl _), cell_at h d2 (Nat.le_refl _)⟩, h⟩
  have HN : Hid (∀ n : Nat, n ≤ 1000000 → ∀ wx, Below W.heap.size W wx → Calls Try.prog 33 #[.int .i64 n] wx fun e w' => ∃ o c, e = .returned (.slice o (putN n).length c) ∧ Hid (RdA w' (.slice o (putN n).length c) (putN n)) ∧ Hid (Below wx.heap.size wx w') ∧ Below W.heap.size W w') := fun n hn wx hb => by
    refine (numberBytes_own n wx (by unfold maxLen; omega)).mono ?_
    rintro e w' ⟨v, rfl, HO, hB⟩
    obtain ⟨o, c, e, _⟩ := HO.rd
    subst e
    exact ⟨o, c, rfl, Own.rdA HO, hB, hb.trans (hB.mono hb.size)⟩
  obtain ⟨hl1, hl2⟩ := pay_len T I hT hI
  have HJ : Hid (∀ (wx : World) (B k : Nat) (o1 o2 : Option Addr) (c1 c2 : Nat), wx.heap[B]? = some (.cells #[.slice (some ⟨k, 0, none⟩) 1 1, .slice o1 (putN T).length c1, .slice o2 (putN I).length c2, .slice uo ys.length uc] 22 (0, 0)) →
      wx.heap[k]? = some (.cells #[.int .u8 2] 5 (0, 0)) → RdA wx (.slice o1 (putN T).length c1) (putN T) → RdA wx (.slice o2 (putN I).length c2) (putN I) → Below W.heap.size W wx →
      Calls Try.prog 40 #[.slice (some ⟨B, 0, none⟩) 4 4] wx fun e w' => ∃ o n c, e = .returned (.slice o n c) ∧ Hid (Own w' W.heap.size (.slice o n c) (2 :: (putN T ++ (putN I ++ ys)))) ∧ Below W.heap.size W w') := fun wx B k o1 o2 c1 c2 g1 g2 g3 g4 hb => by
    refine (join_four wx B k 2 (by decide) o1 o2 uo _ _ _ c1 c2 uc _ _ ys g1 g2 g3 g4 (HU.out.below (hb0.trans (hb.mono hb0.size)) (Nat.le_refl _)) (by omega)).mono ?_
    rintro e w' ⟨v, rfl, HO, hB⟩
    obtain ⟨o, c, e, _⟩ := HO.rd
    subst e
    exact ⟨o, _, c, rfl, HO.mono hb.size, hb.trans (hB.mono hb.size)⟩
  have HEnd : Hid (Below w.heap.size w W) := hb0
  have hs0 : w.heap.size ≤ W.heap.size := hb0.size
  clear hl1 hl2 hb0 hk
  go_enter Try.func108, Try.ntmps108
  go_wp2
  rw [← hW]
  clear hW
  go_region_held_law (fun wx => (wx.cell? ⟨w.heap.size, 0, none⟩ = some (.int .i64 T) ∧ wx.cell? ⟨w.heap.size, 1, none⟩ = some (.int .i64 I) ∧ wx.cell? ⟨w.heap.size, 2, none⟩ = some (.slice uo ys.length uc)) ∧ Below W.heap.size W wx)
    ((refine HS.out _ ?_; first | assumption | exact (Below.refl _ _).drew | exact more (by assumption) _ | exact more (more (by assumption) _) _ | exact more (more (more (by assumption) _) _) _ | exact more ((Below.refl _ _).drew) _))
    (first
      | (go_at_call 33; have _h1 := B1; refine (HN.out _ (by omega) _ (by first | assumption | exact And.right (by assumption) | exact more (by assumption) _ | exact more (more (by assumption) _) _)).mono ?_; rintro e w2 ⟨o2, c2, rfl, R2, B2, D2⟩)
      | (go_at_call 33; refine (HN.out _ (by omega) _ (by first | assumption | exact And.right (by assumption) | exact more (by assumption) _ | exact more (more (by assumption) _) _)).mono ?_; rintro e w1 ⟨o1, c1, rfl, R1, B1, D1⟩)
      | (go_at_call 40; refine (HJ.out _ _ _ _ _ _ _ (by exact new_at (by first | rfl | simp)) (by first
            | exact kept (more (Below.refl _ _) _) (kept B2.out (kept B1.out (by exact new_at (by first | rfl | simp)) (Nat.le_refl _)) (Nat.le_refl _)) (Nat.le_refl _)
            | exact kept (more (Below.refl _ _) _) (kept B2.out (by exact new_at (by first | rfl | simp)) (Nat.le_refl _)) (Nat.le_refl _)
            | exact kept (more (Below.refl _ _) _) (by exact new_at (by first | rfl | simp)) (Nat.le_refl _))
          (by first
            | exact ((R1.out.below B2.out (Nat.le_refl _)).below (more (Below.refl _ _) _) (Nat.le_refl _))
            | exact (((R1.out.below (more (Below.refl _ _) _) (Nat.le_refl _)).below B2.out (Nat.le_refl _)).below (more (Below.refl _ _) _) (Nat.le_refl _))
            | exact (((R1.out.below B2.out (Nat.le_refl _)).below (more (Below.refl _ _) _) (Nat.le_refl _)).below (more (Below.refl _ _) _) (Nat.le_refl _)))
          (by first
            | exact (R2.out.below (more (Below.refl _ _) _) (Nat.le_refl _))
            | exact ((R2.out.below (more (Below.refl _ _) _) (Nat.le_refl _)).below (more (Below.refl _ _) _) (Nat.le_refl _)))
          (by first | assumption | exact And.right (by assumption) | exact more (by assumption) _ | exact more (more (by assumption) _) _)).mono ?_; rintro e w3 ⟨o3, n3, c3, rfl, R3, D3⟩))
  all_goals
    have HF : Hid (Own w3 w.heap.size (.slice o3 n3 c3) (2 :: (putN T ++ (putN I ++ ys))) ∧ Below w.heap.size w w3) := ⟨R3.out.mono hs0, HEnd.out.trans (D3.mono hs0)⟩
    clear R3 D3
    go_wp2
    go_ret
    exact ⟨_, rfl, HF.out⟩

theorem lit_other {w w' : World} {base k : Nat} {v : Value} {xs : List Int} (h : Own w base v xs) (hk : k < base) (hg : w.grownBy w' (Value.slice (some ⟨k, 0, none⟩) 1 1).ownBlock) : Own w' base v xs :=
  ⟨h.1, World.ownsRow.kept h.2 hg (.inr fun e => by have := (h.lt k e).1; omega)⟩
theorem lit_above {w w' : World} {base k : Nat} {v : Value} {xs : List Int} (h : Own w base v xs) (hk : ∀ j, v.ownBlock = some j → j < k) (hg : w.grownBy w' (Value.slice (some ⟨k, 0, none⟩) 1 1).ownBlock) : Own w' base v xs :=
  ⟨h.1, World.ownsRow.kept h.2 hg (.inr fun e => by have := hk k e; omega)⟩

set_option maxRecDepth 20000 in
set_option maxHeartbeats 2000000 in
theorem entry_spec (w : World) (T I : Nat) (u : Value) (ys : List Int) (hT : T ≤ 1000000) (hI : I ≤ 1000000) (hu : RdA w u ys) (hn : ys.length ≤ 1000) :
    Calls Try.prog 73 #[.agg #[.int .i64 T, .int .i64 I, u]] w fun e w' => ∃ v, e = .returned v ∧ Own w' w.heap.size v (frameN (2 :: (putN T ++ (putN I ++ ys)))) ∧ Below w.heap.size w w' := by
  have HU : Hid (RdA w u ys) := hu
  obtain ⟨⟨uo, uc, rfl, _⟩, _⟩ := hu
  obtain ⟨W, hW⟩ : ∃ W, W = w.alloc (.cells #[.int .i64 T, .int .i64 I, .slice uo ys.length uc] 92) := ⟨_, rfl⟩
  have hb0 : Below w.heap.size w W := by rw [hW]; exact (Below.refl _ _).alloc (Nat.le_refl _) _
  have hk : W.heap[w.heap.size]? = some (.cells #[.int .i64 T, .int .i64 I, .slice uo ys.length uc] 92 (0, 0)) := by rw [hW]; exact heap_alloc_new w _
  have d0 : W.cell? ⟨w.heap.size, 0, none⟩ = some (.int .i64 T) := by simp [World.cell?, hk]
  have d1 : W.cell? ⟨w.heap.size, 1, none⟩ = some (.int .i64 I) := by simp [World.cell?, hk]
  have d2 : W.cell? ⟨w.heap.size, 2, none⟩ = some (.slice uo ys.length uc) := by simp [World.cell?, hk]
  have HS : Hid (∀ wx, Below W.heap.size W wx → (wx.cell? ⟨w.heap.size, 0, none⟩ = some (.int .i64 T) ∧ wx.cell? ⟨w.heap.size, 1, none⟩ = some (.int .i64 I)) ∧ Below W.heap.size W wx) := fun wx h => ⟨⟨cell_at h d0 (Nat.le_refl _), cell_at h d1 (Nat.le_refl _)⟩, h⟩
  have HS2 : Hid (∀ wx, Below W.heap.size W wx → wx.cell? ⟨w.heap.size, 2, none⟩ = some (.slice uo ys.length uc)) := fun wx h => cell_at h d2 (Nat.le_refl _)
  have HN : Hid (∀ n : Nat, n ≤ 1000000 → ∀ wx, Below W.heap.size W wx → Calls Try.prog 34 #[.int .i64 n] wx fun e w' => ∃ o c, e = .returned (.slice o (putN n).length c) ∧ Hid (Own w' wx.heap.size (.slice o (putN n).length c) (putN n)) ∧ Hid (Below wx.heap.size wx w') ∧ Below W.heap.size W w' ∧ W.heap.size ≤ w'.heap.size) := fun n hn wx hb => by
    refine (l01Put_own n wx (by unfold maxLen; omega)).mono ?_
    rintro e w' ⟨v, rfl, HO, hB⟩
    obtain ⟨o, c, e, _⟩ := HO.rd
    subst e
    have hq := hb.trans (hB.mono hb.size)
    exact ⟨o, c, rfl, HO, hB, hq, hq.size⟩
  obtain ⟨hl1, hl2⟩ := pay_len T I hT hI
  have HEnd : Hid (Below w.heap.size w W) := hb0
  have hs0 : w.heap.size ≤ W.heap.size := hb0.size
  have HGrow : Hid (∀ wx w' v (xs : List Int), Below W.heap.size W wx → Own wx W.heap.size v xs → wx.grownBy w' v.ownBlock → Below W.heap.size W w') := fun wx w' v xs h ho hg => h.grown hg h.size (fun k hk => (ho.lt k hk).1)
  have HG2 : Hid (∀ (wx w' : World) (k : Nat), Below W.heap.size W wx → W.heap.size ≤ k → wx.grownBy w' (Value.slice (some ⟨k, 0, none⟩) 1 1).ownBlock → Below W.heap.size W w') := fun wx w' k h hk hg => h.grown hg h.size (fun j hj => by simp [Value.ownBlock] at hj; omega)
  clear hb0 hk
  go_enter Try.func73, Try.ntmps73
  go_wp2
  rw [← hW]
  clear hW
  go_region_held_law (fun wx => (wx.cell? ⟨w.heap.size, 0, none⟩ = some (.int .i64 T) ∧ wx.cell? ⟨w.heap.size, 1, none⟩ = some (.int .i64 I)) ∧ Below W.heap.size W wx)
    ((refine HS.out _ ?_; first | assumption | exact (Below.refl _ _).drew | exact more (by assumption) _ | exact more (more (by assumption) _) _ | exact more (more (more (by assumption) _) _) _ | exact more ((Below.refl _ _).drew) _))
    (first
      | (go_at_call 34; have _h1 := B1; refine (HN.out _ (by omega) _ (by first | assumption | exact And.right (by assumption) | exact more (by assumption) _ | exact more (more (by assumption) _) _)).mono ?_; rintro e w2 ⟨o2, c2, rfl, R2, B2, D2, s2⟩)
      | (go_at_call 34; refine (HN.out _ (by omega) _ (by first | assumption | exact And.right (by assumption) | exact more (by assumption) _ | exact more (more (by assumption) _) _)).mono ?_; rintro e w1 ⟨o1, c1, rfl, R1, B1, D1, s1⟩)
      | (have _h8 := H8; refine step_append_rd _ rfl _ _ 22 rfl Try.underlying22 info5 W.heap.size _ ([2] ++ putN T) rfl (by first | exact H8.out | exact H8.out.below B2.out (Nat.le_refl _)) _ (putN I) rfl (by first | exact R28.out | exact Own.rdA R2.out) (by simp; omega) (by first | omega | (simp; omega)) ?_; intro v9 w9 O9 G9; have D9 : Below W.heap.size W w9 := HGrow.out _ _ _ _ (by first | assumption | exact And.right (by assumption) | exact more (by assumption) _ | exact more (more (by assumption) _) _) (by first | exact H8.out | exact H8.out.below B2.out (Nat.le_refl _)) G9; have H9 : Hid (Own w9 W.heap.size v9 (([2] ++ putN T) ++ putN I)) := O9; clear O9 G9)
      | (have _h2 := B2; refine step_append_rd _ rfl _ _ 22 rfl Try.underlying22 info5 W.heap.size _ [2] rfl (lit_at (by first
            | exact kept B2.out (kept B1.out (by exact new_at (by first | rfl | simp)) (Nat.le_refl _)) (Nat.le_refl _)
            | exact kept B2.out (by exact new_at (by first | rfl | simp)) (Nat.le_refl _)
            | exact new_at (by first | rfl | simp)) (by first | exact Nat.le_refl _ | assumption | omega) (by decide)) _ (putN T) rfl (by first
            | exact (Own.rdA R1.out).below B2.out (Nat.le_refl _)
            | exact ((Own.rdA R1.out).below (more (Below.refl _ _) _) (Nat.le_refl _)).below B2.out (Nat.le_refl _)
            | exact ((Own.rdA R1.out).below B2.out (Nat.le_refl _)).below (more (Below.refl _ _) _) (Nat.le_refl _)) (by simp; omega) (by first | omega | (simp; omega)) ?_
         intro v8 w8 O8 G8
         have D8 : Below W.heap.size W w8 := HG2.out _ _ _ (by first | assumption | exact And.right (by assumption) | exact more (by assumption) _ | exact more (more (by assumption) _) _) (by first | exact Nat.le_refl _ | assumption | omega) G8
         have s8 := D8.size
         have R28 : Hid (RdA w8 (.slice o2 (putN I).length c2) (putN I)) := by
           first
             | exact Own.rdA (lit_other R2.out (by have z := B1.out.size; simp at z; omega) G8)
             | exact Own.rdA (lit_other R2.out (by simp) G8)
             | exact Own.rdA (lit_above (R2.out.below (more (Below.refl _ _) _) (Nat.le_refl _)) (fun k hk => (R2.out.lt k hk).2) G8)
         have H8 : Hid (Own w8 W.heap.size v8 ([2] ++ putN T)) := O8
         clear O8 G8)
      | (refine step_append_rd _ rfl _ _ 22 rfl Try.underlying22 info5 W.heap.size _ [2] rfl (lit_at (by first
            | exact kept B1.out (by exact new_at (by first | rfl | simp)) (Nat.le_refl _)
            | exact new_at (by first | rfl | simp)) (by first | exact Nat.le_refl _ | assumption | omega) (by decide)) _ (putN T) rfl (by first
            | exact (Own.rdA R1.out)
            | exact ((Own.rdA R1.out).below (more (Below.refl _ _) _) (Nat.le_refl _))) (by simp; omega) (by first | omega | (simp; omega)) ?_
         intro v8 w8 O8 G8
         have D8 : Below W.heap.size W w8 := HG2.out _ _ _ (by first | assumption | exact And.right (by assumption) | exact more (by assumption) _ | exact more (more (by assumption) _) _) (by first | exact Nat.le_refl _ | assumption | omega) G8
         have s8 := D8.size
         have H8 : Hid (Own w8 W.heap.size v8 ([2] ++ putN T)) := O8
         clear O8 G8))
  all_goals
    have hs9 := D9.size
    have c9 := HS2.out _ D9
    have HU9 : Hid (RdA w9 (.slice uo ys.length uc) ys) := HU.out.below (HEnd.out.trans (D9.mono hs0)) (Nat.le_refl _)
    go_wp2_with (at_builtin; refine wpList_append_rd _ rfl _ _ 22 rfl Try.underlying22 info5 W.heap.size _ _ rfl H9.out _ ys rfl HU9.out (by simp; omega) hs9 ?_; intro v10 w10 O10 G10)
    have H10 : Hid (Own w10 W.heap.size v10 (2 :: (putN T ++ (putN I ++ ys))) ∧ Below W.heap.size W w10) := ⟨by simpa using O10, HGrow.out _ _ _ _ D9 H9.out G10⟩
    clear O10 G10 H9 D9
    have hs10 := H10.out.2.size
    refine (l01Frame_own w10 _ (2 :: (putN T ++ (putN I ++ ys))) (by simp; omega) (Own.rdA H10.out.1)).mono ?_
    rintro e w11 ⟨v11, rfl, O11, b11⟩
    have HF : Hid (Own w11 w.heap.size v11 (frameN (2 :: (putN T ++ (putN I ++ ys)))) ∧ Below w.heap.size w w11) := ⟨O11.mono (by omega), (HEnd.out.trans (H10.out.2.mono hs0)).trans (b11.mono (by omega))⟩
    clear O11 b11
    go_wp2
    go_ret
    exact ⟨_, rfl, HF.out⟩
end Go.Proofs.Ytipcdioolafkpaa.entpays
