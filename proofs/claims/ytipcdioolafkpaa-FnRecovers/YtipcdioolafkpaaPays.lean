/- Contracts of the payloads of the records of a log. -/
import Derived.Test.YtipcdioolafkpaaVotes
namespace Go.Proofs.Ytipcdioolafkpaa.pays
open Go.ChangeShapes Go.WideShapes Go.ChangeAt Go.RowKit
open Go.Proofs.Ytipcdioolafkpaa.bytes Go.Proofs.Ytipcdioolafkpaa.pile Go.Proofs.Ytipcdioolafkpaa.put Go.Proofs.Ytipcdioolafkpaa.crcs Go.Proofs.Ytipcdioolafkpaa.join Go.Proofs.Ytipcdioolafkpaa.frames Go.Proofs.Ytipcdioolafkpaa.votes
set_option linter.unusedVariables false

theorem more {W wx : World} (h : Below W.heap.size W wx) (o : Obj) : Below W.heap.size W (wx.alloc o) := h.alloc h.size o
theorem cell_at {w w' : World} {B : Nat} {a : Addr} {v : Value} (h : Below B w w') (hc : w.cell? a = some v) (hB : w.heap.size ≤ B) : w'.cell? a = some v := (h.cell (by have := cell_lt hc; omega)).trans hc

/-- A block that lies where it lay. -/
theorem kept {w w' : World} {B k : Nat} {o : Obj} (h : Below B w w') (hk : w.heap[k]? = some o) (hB : w.heap.size ≤ B) : w'.heap[k]? = some o := (h.block k (by have := (Array.getElem?_eq_some_iff.1 hk).1; omega)).trans hk

theorem new_at {w : World} {o : Obj} {k : Nat} (h : w.heap.size = k) : (w.alloc o).heap[k]? = some o := by subst h; exact heap_alloc_new w o

theorem lit_rdA {wx : World} {k : Nat} {x : Int} (h : wx.heap[k]? = some (.cells #[.int .u8 x] 5 (0, 0))) (hx : 0 ≤ x ∧ x ≤ 255) : RdA wx (.slice (some ⟨k, 0, none⟩) 1 1) [x] := by
  refine ⟨⟨some ⟨k, 0, none⟩, 1, rfl, by simp, by simp [maxLen], by simpa using hx, fun _ => ⟨k, 0, rfl, fun i hi => ?_⟩⟩, fun n c e => by simp at e⟩
  have : i = 0 := by simp at hi; omega
  subst this
  simp [World.cell?, h]

/-- join of three pieces, the first a byte. -/
theorem join_three (wx : World) (B k : Nat) (x : Int) (hx : 0 ≤ x ∧ x ≤ 255) (o1 o2 : Option Addr) (n1 n2 c1 c2 : Nat) (ys zs : List Int) (hB : wx.heap[B]? = some (.cells #[.slice (some ⟨k, 0, none⟩) 1 1, .slice o1 n1 c1, .slice o2 n2 c2] 22 (0, 0)))
    (hk : wx.heap[k]? = some (.cells #[.int .u8 x] 5 (0, 0))) (h1 : RdA wx (.slice o1 n1 c1) ys) (h2 : RdA wx (.slice o2 n2 c2) zs) (hl : ys.length + zs.length ≤ 65536) :
    Calls Try.prog 40 #[.slice (some ⟨B, 0, none⟩) 3 3] wx fun e w' => ∃ v, e = .returned v ∧ Own w' wx.heap.size v (x :: (ys ++ zs)) ∧ Below wx.heap.size wx w' := by
  have h := join_own wx (.slice (some ⟨B, 0, none⟩) 3 3) [.slice (some ⟨k, 0, none⟩) 1 1, .slice o1 n1 c1, .slice o2 n2 c2] [[x], ys, zs] ⟨_, _, rfl, Nat.le_refl _, by simp [maxLen], fun _ => ⟨B, 0, rfl, fun i hi => by
      have h3 : i = 0 ∨ i = 1 ∨ i = 2 := by simp at hi; omega
      rcases h3 with rfl | rfl | rfl <;> simp [World.cell?, hB]⟩⟩ ⟨rfl, fun i hi => by
      have h3 : i = 0 ∨ i = 1 ∨ i = 2 := by simp at hi; omega
      rcases h3 with rfl | rfl | rfl
      · exact lit_rdA hk hx
      · exact h1
      · exact h2⟩ (by simp; omega)
  simpa using h

set_option maxRecDepth 20000 in
set_option maxHeartbeats 2000000 in
theorem vote_pay (w : World) (T V : Nat) (hT : T ≤ 1000000) (hV : V ≤ 1000000) :
    Calls Try.prog 107 #[.agg #[.int .i64 T, .int .i64 V]] w fun e w' => ∃ v, e = .returned v ∧ Own w' w.heap.size v (1 :: (putN T ++ putN V)) ∧ Below w.heap.size w w' := by
  obtain ⟨W, hW⟩ : ∃ W, W = w.alloc (.cells #[.int .i64 T, .int .i64 V] 120) := ⟨_, rfl⟩
  have hb0 : Below w.heap.size w W := by rw [hW]; exact (Below.refl _ _).alloc (Nat.le_refl _) _
  have hk : W.heap[w.heap.size]? = some (.cells #[.int .i64 T, .int .i64 V] 120 (0, 0)) := by rw [hW]; exact heap_alloc_new w _
  have d0 : W.cell? ⟨w.heap.size, 0, none⟩ = some (.int .i64 T) := by simp [World.cell?, hk]
  have d1 : W.cell? ⟨w.heap.size, 1, none⟩ = some (.int .i64 V) := by simp [World.cell?, hk]
  have HS : Hid (∀ wx, Below W.heap.size W wx → (wx.cell? ⟨w.heap.size, 0, none⟩ = some (.int .i64 T) ∧ wx.cell? ⟨w.heap.size, 1, none⟩ = some (.int .i64 V)) ∧ Below W.heap.size W wx) := fun wx h => ⟨⟨cell_at h d0 (Nat.le_refl _), cell_at h d1 (Nat.le_refl _)⟩, h⟩
  have hnum : ∀ n : Nat, n ≤ 1000000 → ∀ wx, Below W.heap.size W wx → Calls Try.prog 33 #[.int .i64 n] wx fun e w' => ∃ o c, e = .returned (.slice o (putN n).length c) ∧ Hid (RdA w' (.slice o (putN n).length c) (putN n)) ∧ Hid (Below wx.heap.size wx w') ∧ Below W.heap.size W w' := fun n hn wx hb => by
    refine (numberBytes_own n wx (by unfold maxLen; omega)).mono ?_
    rintro e w' ⟨v, rfl, HO, hB⟩
    obtain ⟨o, c, e, _⟩ := HO.rd
    subst e
    exact ⟨o, c, rfl, Own.rdA HO, hB, hb.trans (hB.mono hb.size)⟩
  have HN : Hid (∀ n : Nat, n ≤ 1000000 → ∀ wx, Below W.heap.size W wx → Calls Try.prog 33 #[.int .i64 n] wx fun e w' => ∃ o c, e = .returned (.slice o (putN n).length c) ∧ Hid (RdA w' (.slice o (putN n).length c) (putN n)) ∧ Hid (Below wx.heap.size wx w') ∧ Below W.heap.size W w') := hnum
  have hl1 := putN_len 9 T (by omega)
  have hl2 := putN_len 9 V (by omega)
  have HJ : Hid (∀ (wx : World) (B k : Nat) (o1 o2 : Option Addr) (c1 c2 : Nat), wx.heap[B]? = some (.cells #[.slice (some ⟨k, 0, none⟩) 1 1, .slice o1 (putN T).length c1, .slice o2 (putN V).length c2] 22 (0, 0)) →
      wx.heap[k]? = some (.cells #[.int .u8 1] 5 (0, 0)) → RdA wx (.slice o1 (putN T).length c1) (putN T) → RdA wx (.slice o2 (putN V).length c2) (putN V) → Below W.heap.size W wx →
      Calls Try.prog 40 #[.slice (some ⟨B, 0, none⟩) 3 3] wx fun e w' => ∃ o n c, e = .returned (.slice o n c) ∧ Hid (Own w' W.heap.size (.slice o n c) (1 :: (putN T ++ putN V))) ∧ Below W.heap.size W w') := fun wx B k o1 o2 c1 c2 g1 g2 g3 g4 hb => by
    refine (join_three wx B k 1 (by decide) o1 o2 _ _ c1 c2 _ _ g1 g2 g3 g4 (by omega)).mono ?_
    rintro e w' ⟨v, rfl, HO, hB⟩
    obtain ⟨o, c, e, _⟩ := HO.rd
    subst e
    exact ⟨o, _, c, rfl, HO.mono hb.size, hb.trans (hB.mono hb.size)⟩
  have HEnd : Hid (Below w.heap.size w W) := hb0
  have hs0 : w.heap.size ≤ W.heap.size := hb0.size
  clear hnum hl1 hl2 hb0 hk
  go_enter Try.func107, Try.ntmps107
  go_wp2
  rw [← hW]
  clear hW
  go_region_held_law (fun wx => (wx.cell? ⟨w.heap.size, 0, none⟩ = some (.int .i64 T) ∧ wx.cell? ⟨w.heap.size, 1, none⟩ = some (.int .i64 V)) ∧ Below W.heap.size W wx)
    ((refine HS.out _ ?_; first | assumption | exact (Below.refl _ _).drew | exact more (by assumption) _ | exact more (more (by assumption) _) _ | exact more (more (more (by assumption) _) _) _ | exact more ((Below.refl _ _).drew) _))
    (first
      | (go_at_call 33; have _h1 := B1; refine (HN.out _ (by omega) _ (by first | assumption | exact And.right (by assumption))).mono ?_; rintro e w2 ⟨o2, c2, rfl, R2, B2, D2⟩)
      | (go_at_call 33; refine (HN.out _ (by omega) _ (by first | assumption | exact And.right (by assumption))).mono ?_; rintro e w1 ⟨o1, c1, rfl, R1, B1, D1⟩)
      | (go_at_call 40; go_loud (refine (HJ.out _ _ _ _ _ _ _ (by exact new_at (by first | rfl | simp)) (by first
            | exact kept (more (Below.refl _ _) _) (kept B2.out (kept B1.out (by exact new_at (by first | rfl | simp)) (Nat.le_refl _)) (Nat.le_refl _)) (Nat.le_refl _)
            | exact kept (more (Below.refl _ _) _) (kept B2.out (by exact new_at (by first | rfl | simp)) (Nat.le_refl _)) (Nat.le_refl _)
            | exact kept (more (Below.refl _ _) _) (by exact new_at (by first | rfl | simp)) (Nat.le_refl _))
          (by first
            | exact ((R1.out.below B2.out (Nat.le_refl _)).below (more (Below.refl _ _) _) (Nat.le_refl _))
            | exact (((R1.out.below (more (Below.refl _ _) _) (Nat.le_refl _)).below B2.out (Nat.le_refl _)).below (more (Below.refl _ _) _) (Nat.le_refl _))
            | exact (((R1.out.below B2.out (Nat.le_refl _)).below (more (Below.refl _ _) _) (Nat.le_refl _)).below (more (Below.refl _ _) _) (Nat.le_refl _)))
          (by first
            | exact (R2.out.below (more (Below.refl _ _) _) (Nat.le_refl _))
            | exact ((R2.out.below (more (Below.refl _ _) _) (Nat.le_refl _)).below (more (Below.refl _ _) _) (Nat.le_refl _)))
          (by first | assumption | exact And.right (by assumption) | exact more (by assumption) _ | exact more (more (by assumption) _) _)).mono ?_; rintro e w3 ⟨o3, n3, c3, rfl, R3, D3⟩)))
  all_goals
    have HF : Hid (Own w3 w.heap.size (.slice o3 n3 c3) (1 :: (putN T ++ putN V)) ∧ Below w.heap.size w w3) := ⟨R3.out.mono hs0, HEnd.out.trans (D3.mono hs0)⟩
    clear R3 D3
    go_wp2
    go_ret
    exact ⟨_, rfl, HF.out⟩
set_option maxRecDepth 20000 in
set_option maxHeartbeats 2000000 in
theorem base_pay (w : World) (T V : Nat) (hT : T ≤ 1000000) (hV : V ≤ 1000000) :
    Calls Try.prog 110 #[.agg #[.int .i64 T, .int .i64 V]] w fun e w' => ∃ v, e = .returned v ∧ Own w' w.heap.size v (3 :: (putN T ++ putN V)) ∧ Below w.heap.size w w' := by
  obtain ⟨W, hW⟩ : ∃ W, W = w.alloc (.cells #[.int .i64 T, .int .i64 V] 127) := ⟨_, rfl⟩
  have hb0 : Below w.heap.size w W := by rw [hW]; exact (Below.refl _ _).alloc (Nat.le_refl _) _
  have hk : W.heap[w.heap.size]? = some (.cells #[.int .i64 T, .int .i64 V] 127 (0, 0)) := by rw [hW]; exact heap_alloc_new w _
  have d0 : W.cell? ⟨w.heap.size, 0, none⟩ = some (.int .i64 T) := by simp [World.cell?, hk]
  have d1 : W.cell? ⟨w.heap.size, 1, none⟩ = some (.int .i64 V) := by simp [World.cell?, hk]
  have HS : Hid (∀ wx, Below W.heap.size W wx → (wx.cell? ⟨w.heap.size, 0, none⟩ = some (.int .i64 T) ∧ wx.cell? ⟨w.heap.size, 1, none⟩ = some (.int .i64 V)) ∧ Below W.heap.size W wx) := fun wx h => ⟨⟨cell_at h d0 (Nat.le_refl _), cell_at h d1 (Nat.le_refl _)⟩, h⟩
  have hnum : ∀ n : Nat, n ≤ 1000000 → ∀ wx, Below W.heap.size W wx → Calls Try.prog 33 #[.int .i64 n] wx fun e w' => ∃ o c, e = .returned (.slice o (putN n).length c) ∧ Hid (RdA w' (.slice o (putN n).length c) (putN n)) ∧ Hid (Below wx.heap.size wx w') ∧ Below W.heap.size W w' := fun n hn wx hb => by
    refine (numberBytes_own n wx (by unfold maxLen; omega)).mono ?_
    rintro e w' ⟨v, rfl, HO, hB⟩
    obtain ⟨o, c, e, _⟩ := HO.rd
    subst e
    exact ⟨o, c, rfl, Own.rdA HO, hB, hb.trans (hB.mono hb.size)⟩
  have HN : Hid (∀ n : Nat, n ≤ 1000000 → ∀ wx, Below W.heap.size W wx → Calls Try.prog 33 #[.int .i64 n] wx fun e w' => ∃ o c, e = .returned (.slice o (putN n).length c) ∧ Hid (RdA w' (.slice o (putN n).length c) (putN n)) ∧ Hid (Below wx.heap.size wx w') ∧ Below W.heap.size W w') := hnum
  have hl1 := putN_len 9 T (by omega)
  have hl2 := putN_len 9 V (by omega)
  have HJ : Hid (∀ (wx : World) (B k : Nat) (o1 o2 : Option Addr) (c1 c2 : Nat), wx.heap[B]? = some (.cells #[.slice (some ⟨k, 0, none⟩) 1 1, .slice o1 (putN T).length c1, .slice o2 (putN V).length c2] 22 (0, 0)) →
      wx.heap[k]? = some (.cells #[.int .u8 3] 5 (0, 0)) → RdA wx (.slice o1 (putN T).length c1) (putN T) → RdA wx (.slice o2 (putN V).length c2) (putN V) → Below W.heap.size W wx →
      Calls Try.prog 40 #[.slice (some ⟨B, 0, none⟩) 3 3] wx fun e w' => ∃ o n c, e = .returned (.slice o n c) ∧ Hid (Own w' W.heap.size (.slice o n c) (3 :: (putN T ++ putN V))) ∧ Below W.heap.size W w') := fun wx B k o1 o2 c1 c2 g1 g2 g3 g4 hb => by
    refine (join_three wx B k 3 (by decide) o1 o2 _ _ c1 c2 _ _ g1 g2 g3 g4 (by omega)).mono ?_
    rintro e w' ⟨v, rfl, HO, hB⟩
    obtain ⟨o, c, e, _⟩ := HO.rd
    subst e
    exact ⟨o, _, c, rfl, HO.mono hb.size, hb.trans (hB.mono hb.size)⟩
  have HEnd : Hid (Below w.heap.size w W) := hb0
  have hs0 : w.heap.size ≤ W.heap.size := hb0.size
  clear hnum hl1 hl2 hb0 hk
  go_enter Try.func110, Try.ntmps110
  go_wp2
  rw [← hW]
  clear hW
  go_region_held_law (fun wx => (wx.cell? ⟨w.heap.size, 0, none⟩ = some (.int .i64 T) ∧ wx.cell? ⟨w.heap.size, 1, none⟩ = some (.int .i64 V)) ∧ Below W.heap.size W wx)
    ((refine HS.out _ ?_; first | assumption | exact (Below.refl _ _).drew | exact more (by assumption) _ | exact more (more (by assumption) _) _ | exact more (more (more (by assumption) _) _) _ | exact more ((Below.refl _ _).drew) _))
    (first
      | (go_at_call 33; have _h1 := B1; refine (HN.out _ (by omega) _ (by first | assumption | exact And.right (by assumption))).mono ?_; rintro e w2 ⟨o2, c2, rfl, R2, B2, D2⟩)
      | (go_at_call 33; refine (HN.out _ (by omega) _ (by first | assumption | exact And.right (by assumption))).mono ?_; rintro e w1 ⟨o1, c1, rfl, R1, B1, D1⟩)
      | (go_at_call 40; go_loud (refine (HJ.out _ _ _ _ _ _ _ (by exact new_at (by first | rfl | simp)) (by first
            | exact kept (more (Below.refl _ _) _) (kept B2.out (kept B1.out (by exact new_at (by first | rfl | simp)) (Nat.le_refl _)) (Nat.le_refl _)) (Nat.le_refl _)
            | exact kept (more (Below.refl _ _) _) (kept B2.out (by exact new_at (by first | rfl | simp)) (Nat.le_refl _)) (Nat.le_refl _)
            | exact kept (more (Below.refl _ _) _) (by exact new_at (by first | rfl | simp)) (Nat.le_refl _))
          (by first
            | exact ((R1.out.below B2.out (Nat.le_refl _)).below (more (Below.refl _ _) _) (Nat.le_refl _))
            | exact (((R1.out.below (more (Below.refl _ _) _) (Nat.le_refl _)).below B2.out (Nat.le_refl _)).below (more (Below.refl _ _) _) (Nat.le_refl _))
            | exact (((R1.out.below B2.out (Nat.le_refl _)).below (more (Below.refl _ _) _) (Nat.le_refl _)).below (more (Below.refl _ _) _) (Nat.le_refl _)))
          (by first
            | exact (R2.out.below (more (Below.refl _ _) _) (Nat.le_refl _))
            | exact ((R2.out.below (more (Below.refl _ _) _) (Nat.le_refl _)).below (more (Below.refl _ _) _) (Nat.le_refl _)))
          (by first | assumption | exact And.right (by assumption) | exact more (by assumption) _ | exact more (more (by assumption) _) _)).mono ?_; rintro e w3 ⟨o3, n3, c3, rfl, R3, D3⟩)))
  all_goals
    have HF : Hid (Own w3 w.heap.size (.slice o3 n3 c3) (3 :: (putN T ++ putN V)) ∧ Below w.heap.size w w3) := ⟨R3.out.mono hs0, HEnd.out.trans (D3.mono hs0)⟩
    clear R3 D3
    go_wp2
    go_ret
    exact ⟨_, rfl, HF.out⟩
end Go.Proofs.Ytipcdioolafkpaa.pays
