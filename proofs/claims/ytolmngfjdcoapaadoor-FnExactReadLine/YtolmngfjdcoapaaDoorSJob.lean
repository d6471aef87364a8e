/- Contracts: a job's bytes by the specification; spec's JobBytes. -/
import Derived.Test.YtolmngfjdcoapaaDoorIJob
namespace Go.Proofs.YtolmngfjdcoapaaDoor.sjob
open Go.ChangeShapes Go.WideShapes Go.ChangeAt Go.RowKit
open Go.Proofs.YtolmngfjdcoapaaDoor.bytes Go.Proofs.YtolmngfjdcoapaaDoor.pile Go.Proofs.YtolmngfjdcoapaaDoor.put Go.Proofs.YtolmngfjdcoapaaDoor.jhelp Go.Proofs.YtolmngfjdcoapaaDoor.wr Go.Proofs.YtolmngfjdcoapaaDoor.jok Go.Proofs.YtolmngfjdcoapaaDoor.wjob Go.Proofs.YtolmngfjdcoapaaDoor.ijob
set_option linter.unusedVariables false

theorem lit_at {w : World} {k base : Nat} {x : Int} (h : w.heap[k]? = some (.cells #[.int .u8 x] 5 (0, 0))) (hb : base ≤ k) (hx : 0 ≤ x ∧ x ≤ 255) : Own w base (.slice (some ⟨k, 0, none⟩) 1 1) [x] :=
  ⟨by simpa using hx, rfl, .inr ⟨k, 1, #[.int .u8 x], rfl, hb, h, Nat.le_refl _, by simp [maxLen], by simp, by simp⟩⟩

set_option maxRecDepth 20000 in
set_option maxHeartbeats 6400000 in
theorem specBytes (w : World) (C Q V : Nat) (F S T : ByteArray) (e q : Bool) (hR : jobB C Q F.size V S.size T.size = true) :
    Calls Tryd.prog 19 #[.agg #[.int .i64 (C : Nat), .int .i64 (Q : Nat), .string F, .int .i64 (V : Nat), .string S, .string T, .bool e, .bool q]] w fun r w' => ∃ u, r = .returned u ∧ Own w' w.heap.size u (jobN C Q F V S T e q) ∧ Below w.heap.size w w' := by
  obtain ⟨r1, r2, r3, r4, r5, r6⟩ := jobB_yes hR
  have l1 := put3 (n := C) (by omega)
  have l2 := put3 (n := Q) (by omega)
  have l3 := put3 (n := V) (by omega)
  have l4 := textN_len (s := F) (by omega)
  have l5 := textN_len r5
  have l6 := textN_len r6
  have HL : Hid ((putN C).length ≤ 3 ∧ (putN Q).length ≤ 3 ∧ (putN V).length ≤ 3 ∧ (textN F).length ≤ 2003 ∧ (textN S).length ≤ 2003 ∧ (textN T).length ≤ 2003) := ⟨l1, l2, l3, l4, l5, l6⟩
  have HRg : Hid (C ≤ 1000000 ∧ Q ≤ 1000000 ∧ V ≤ 1000000 ∧ F.size ≤ 40 ∧ S.size ≤ 2000 ∧ T.size ≤ 2000) := ⟨by omega, by omega, by omega, r4, r5, r6⟩
  obtain ⟨W, hWW⟩ : ∃ W, W = w.alloc (.cells #[.int .i64 (C : Nat), .int .i64 (Q : Nat), .string F, .int .i64 (V : Nat), .string S, .string T, .bool e, .bool q] 50) := ⟨_, rfl⟩
  have bW : Below w.heap.size w W := by rw [hWW]; exact (Below.refl _ _).alloc (Nat.le_refl _) _
  have k0 : W.heap[w.heap.size]? = some (.cells #[.int .i64 (C : Nat), .int .i64 (Q : Nat), .string F, .int .i64 (V : Nat), .string S, .string T, .bool e, .bool q] 50 (0, 0)) := by rw [hWW]; exact heap_alloc_new w _
  have x0 : W.cell? ⟨w.heap.size, 0, none⟩ = some (.int .i64 C) := cell_of k0 rfl
  have x1 : W.cell? ⟨w.heap.size, 1, none⟩ = some (.int .i64 Q) := cell_of k0 rfl
  have x2 : W.cell? ⟨w.heap.size, 2, none⟩ = some (.string F) := cell_of k0 rfl
  have x3 : W.cell? ⟨w.heap.size, 3, none⟩ = some (.int .i64 V) := cell_of k0 rfl
  have x4 : W.cell? ⟨w.heap.size, 4, none⟩ = some (.string S) := cell_of k0 rfl
  have x5 : W.cell? ⟨w.heap.size, 5, none⟩ = some (.string T) := cell_of k0 rfl
  have x6 : W.cell? ⟨w.heap.size, 6, none⟩ = some (.bool e) := cell_of k0 rfl
  have x7 : W.cell? ⟨w.heap.size, 7, none⟩ = some (.bool q) := cell_of k0 rfl
  have HS : Hid (∀ wx, Below W.heap.size W wx → (wx.cell? ⟨w.heap.size, 0, none⟩ = some (.int .i64 C) ∧ wx.cell? ⟨w.heap.size, 1, none⟩ = some (.int .i64 Q)) ∧ Below W.heap.size W wx) := fun wx h => ⟨⟨cell_at h x0 (Nat.le_refl _), cell_at h x1 (Nat.le_refl _)⟩, h⟩
  have HN : Hid (∀ n : Nat, n ≤ 1000000 → ∀ wx, Below W.heap.size W wx → Calls Tryd.prog 24 #[.int .i64 n] wx fun r w' => ∃ o m c, r = .returned (.slice o m c) ∧ Hid (Own w' wx.heap.size (.slice o m c) (putN n)) ∧ Hid (Below wx.heap.size wx w') ∧ Below W.heap.size W w' ∧ W.heap.size ≤ w'.heap.size) := fun n hn wx hb => by
    refine (l01Put_own n wx (by unfold maxLen; omega)).mono ?_
    rintro r w' ⟨u, rfl, HO, hB⟩
    obtain ⟨o, c, e, _⟩ := HO.rd
    subst e
    have hq := hb.trans (hB.mono hb.size)
    exact ⟨o, _, c, rfl, HO, hB, hq, hq.size⟩
  have HEnd : Hid (Below w.heap.size w W) := bW
  have hs0 : w.heap.size ≤ W.heap.size := bW.size
  clear r1 r2 r3 r4 r5 r6 l1 l2 l3 l4 l5 l6 hR k0 bW
  go_enter Tryd.func19, Tryd.ntmps19
  go_wp2
  rw [← hWW]
  clear hWW
  go_region_held_law (fun wx => (wx.cell? ⟨w.heap.size, 0, none⟩ = some (.int .i64 C) ∧ wx.cell? ⟨w.heap.size, 1, none⟩ = some (.int .i64 Q)) ∧ Below W.heap.size W wx)
    ((refine HS.out _ ?_; first | assumption | exact Below.refl _ _ | exact (Below.refl _ _).drew))
    (first
      | (go_at_call 24; have _h1 := B1; refine (HN.out _ (by have := HRg.out; omega) _ (by first | assumption | exact And.right (by assumption))).mono ?_; rintro r w2 ⟨o2, m2, c2, rfl, R2, B2, D2, s2⟩)
      | (go_at_call 24; refine (HN.out _ (by have := HRg.out; omega) _ (by first | assumption | exact And.right (by assumption))).mono ?_; rintro r w1 ⟨o1, m1, c1, rfl, R1, B1, D1, s1⟩)
      | (refine step_append_rd _ rfl _ _ 22 rfl Tryd.underlying22 info5 W.heap.size _ (putN C) rfl ((R1.out.below B2.out (Nat.le_refl _)).mono (by first | exact Nat.le_refl _ | omega | (have := D1.size; omega) | (have := B1.out.size; simp at this ⊢; omega))) _ (putN Q) rfl (Own.rdA R2.out) (by have := HL.out; omega) (by exact s2) ?_
         intro v0 w0' O0 G0
         have D0 : Below W.heap.size W w0' := D2.grown G0 s2 (fun k hk => by have := (R1.out.lt k hk).1; first | exact this | omega | (simp at this; omega))
         have H0 : Hid (Own w0' W.heap.size v0 (putN C ++ putN Q)) := O0
         clear O0 G0))
  have cl02 := cell_at D0 x2 (Nat.le_refl _)
  clear x0 x1 HS HN R1 B1 D1 s1 R2 B2 D2 s2
  have y0 := D0.size
  go_wp2_with fail
  refine (text_own _ F (by have := HRg.out; omega)).mono ?_
  rintro r u0 ⟨t0, rfl, A0, b0⟩
  have E0 : Below W.heap.size W u0 := D0.trans (b0.mono (by omega))
  have HA0 : Hid (RdA u0 t0 _) := Own.rdA A0
  have HO0 : Hid (Own u0 W.heap.size v0 _) := H0.out.below b0 (Nat.le_refl _)
  have z0 : W.heap.size ≤ u0.heap.size := by have := b0.size; omega
  clear A0 b0 cl02 H0 D0 y0
  go_wp2_with (at_builtin; refine wpList_append_rd _ rfl _ _ 22 rfl Tryd.underlying22 info5 W.heap.size _ _ rfl HO0.out _ _ rfl HA0.out (by have := HL.out; simp only [List.length_append]; omega) (by exact z0) ?_; intro v1 w1' O1 G1; have D1 : Below W.heap.size W w1' := E0.grown G1 (by exact z0) (fun k hk => (HO0.out.lt k hk).1); have H1 : Hid (Own w1' W.heap.size v1 _) := O1; clear O1 G1; have cl13 := cell_at D1 x3 (Nat.le_refl _))
  clear HA0 HO0 E0 z0
  have y1 := D1.size
  go_wp2_with fail
  refine (l01Put_own V _ (by have := HRg.out; unfold maxLen; omega)).mono ?_
  rintro r u1 ⟨t1, rfl, A1, b1⟩
  have E1 : Below W.heap.size W u1 := D1.trans (b1.mono (by omega))
  have HA1 : Hid (RdA u1 t1 _) := Own.rdA A1
  have HO1 : Hid (Own u1 W.heap.size v1 _) := H1.out.below b1 (Nat.le_refl _)
  have z1 : W.heap.size ≤ u1.heap.size := by have := b1.size; omega
  clear A1 b1 cl13 H1 D1 y1
  go_wp2_with (at_builtin; refine wpList_append_rd _ rfl _ _ 22 rfl Tryd.underlying22 info5 W.heap.size _ _ rfl HO1.out _ _ rfl HA1.out (by have := HL.out; simp only [List.length_append]; omega) (by exact z1) ?_; intro v2 w2' O2 G2; have D2 : Below W.heap.size W w2' := E1.grown G2 (by exact z1) (fun k hk => (HO1.out.lt k hk).1); have H2 : Hid (Own w2' W.heap.size v2 _) := O2; clear O2 G2; have cl24 := cell_at D2 x4 (Nat.le_refl _))
  clear HA1 HO1 E1 z1
  have y2 := D2.size
  go_wp2_with fail
  refine (text_own _ S (by have := HRg.out; omega)).mono ?_
  rintro r u2 ⟨t2, rfl, A2, b2⟩
  have E2 : Below W.heap.size W u2 := D2.trans (b2.mono (by omega))
  have HA2 : Hid (RdA u2 t2 _) := Own.rdA A2
  have HO2 : Hid (Own u2 W.heap.size v2 _) := H2.out.below b2 (Nat.le_refl _)
  have z2 : W.heap.size ≤ u2.heap.size := by have := b2.size; omega
  clear A2 b2 cl24 H2 D2 y2
  go_wp2_with (at_builtin; refine wpList_append_rd _ rfl _ _ 22 rfl Tryd.underlying22 info5 W.heap.size _ _ rfl HO2.out _ _ rfl HA2.out (by have := HL.out; simp only [List.length_append]; omega) (by exact z2) ?_; intro v3 w3' O3 G3; have D3 : Below W.heap.size W w3' := E2.grown G3 (by exact z2) (fun k hk => (HO2.out.lt k hk).1); have H3 : Hid (Own w3' W.heap.size v3 _) := O3; clear O3 G3; have cl35 := cell_at D3 x5 (Nat.le_refl _))
  clear HA2 HO2 E2 z2
  have y3 := D3.size
  go_wp2_with fail
  refine (text_own _ T (by have := HRg.out; omega)).mono ?_
  rintro r u3 ⟨t3, rfl, A3, b3⟩
  have E3 : Below W.heap.size W u3 := D3.trans (b3.mono (by omega))
  have HA3 : Hid (RdA u3 t3 _) := Own.rdA A3
  have HO3 : Hid (Own u3 W.heap.size v3 _) := H3.out.below b3 (Nat.le_refl _)
  have z3 : W.heap.size ≤ u3.heap.size := by have := b3.size; omega
  clear A3 b3 cl35 H3 D3 y3
  go_wp2_with (at_builtin; refine wpList_append_rd _ rfl _ _ 22 rfl Tryd.underlying22 info5 W.heap.size _ _ rfl HO3.out _ _ rfl HA3.out (by have := HL.out; simp only [List.length_append]; omega) (by exact z3) ?_; intro v4 w4' O4 G4; have D4 : Below W.heap.size W w4' := E3.grown G4 (by exact z3) (fun k hk => (HO3.out.lt k hk).1); have H4 : Hid (Own w4' W.heap.size v4 _) := O4; clear O4 G4; have cl46 := cell_at D4 x6 (Nat.le_refl _); have cl47 := cell_at D4 x7 (Nat.le_refl _))
  clear HA3 HO3 E3 z3
  have y4 := D4.size
  obtain ⟨zs, hzs⟩ : ∃ zs, zs = putN C ++ putN Q ++ textN F ++ putN V ++ textN S ++ textN T := ⟨_, rfl⟩
  have HZ : Hid (zs = putN C ++ putN Q ++ textN F ++ putN V ++ textN S ++ textN T ∧ zs.length ≤ 6018) := ⟨hzs, by rw [hzs]; have := HL.out; simp only [List.length_append]; omega⟩
  rw [← hzs] at H4
  clear hzs
  have HS6 : Hid (∀ wx, Below W.heap.size W wx → (wx.cell? ⟨w.heap.size, 6, none⟩ = some (.bool e) ∧ wx.cell? ⟨w.heap.size, 7, none⟩ = some (.bool q)) ∧ Below W.heap.size W wx) := fun wx h => ⟨⟨cell_at h x6 (Nat.le_refl _), cell_at h x7 (Nat.le_refl _)⟩, h⟩
  obtain ⟨x, hx⟩ : ∃ x : Int, x = if e then 1 else 0 := ⟨_, rfl⟩
  obtain ⟨y, hy⟩ : ∃ x : Int, x = if q then 1 else 0 := ⟨_, rfl⟩
  have HE : Hid (∀ wx, Calls Tryd.prog 26 #[.bool e] wx fun r w' => r = .returned (.int .i64 x) ∧ w' = wx) := fun wx => by rw [hx]; exact flag_any wx e
  have HQ : Hid (∀ wx, Calls Tryd.prog 26 #[.bool q] wx fun r w' => r = .returned (.int .i64 y) ∧ w' = wx) := fun wx => by rw [hy]; exact flag_any wx q
  have HF : Hid (flagN e q = x + 2 * y) := by unfold Hid flagN; rw [hx, hy]
  have hx0 : 0 ≤ x ∧ x ≤ 1 := by rw [hx]; cases e <;> simp
  have hy0 : 0 ≤ y ∧ y ≤ 1 := by rw [hy]; cases q <;> simp
  have f1 : IntKind.i64.wrap (2 * y) = 2 * y := by rw [IntKind.wrap_i64]; omega
  have f2 : IntKind.i64.wrap (x + 2 * y) = x + 2 * y := by rw [IntKind.wrap_i64]; omega
  have f3 : IntKind.u8.wrap (x + 2 * y) = x + 2 * y := by simp [IntKind.wrap, IntKind.bits, IntKind.signed]; omega
  have f4 : (x + 2 * y) % 256 = x + 2 * y := by omega
  have HXY : Hid (0 ≤ x + 2 * y ∧ x + 2 * y ≤ 255) := ⟨by omega, by omega⟩
  have HD4 : Hid (Below W.heap.size W w4') := D4
  clear hx hy cl46 cl47 x2 x3 x4 x5 x6 x7 D4 hx0 hy0
  go_region_held_law (fun wx => (wx.cell? ⟨w.heap.size, 6, none⟩ = some (.bool e) ∧ wx.cell? ⟨w.heap.size, 7, none⟩ = some (.bool q)) ∧ Below W.heap.size W wx)
    ((refine HS6.out _ ?_; first | assumption | exact HD4.out | exact HD4.out.drew | exact (HD4.out.alloc y4 _).drew | exact HD4.out.alloc y4 _ | exact (more (Below.refl _ _) _).drew | exact more (Below.refl _ _) _ | exact Below.refl _ _ | exact (Below.refl _ _).drew | exact And.right (by assumption)))
    (first
      | (go_at_call 26; with_reducible (refine (HE.out _).mono ?_); rintro r wf ⟨rfl, rfl⟩)
      | (go_at_call 26; with_reducible (refine (HQ.out _).mono ?_); rintro r wf ⟨rfl, rfl⟩)
      | (refine step_append_rd _ rfl _ _ 22 rfl Tryd.underlying22 info5 W.heap.size _ zs rfl (H4.out.below (by first | exact (more (Below.refl _ _) _).drew | exact more (Below.refl _ _) _ | exact more ((Below.refl _ _).drew) _ | exact more (by assumption) _ | exact more (And.right (by assumption)) _) (Nat.le_refl _)) _ [x + 2 * y] rfl (lit_rdA (by exact new_at (by first | rfl | simp)) HXY.out) (by have := HZ.out.2; simp; omega) (by first | omega | (simp; omega)) ?_
         intro v5 w5 O5 G5
         have D5 : Below W.heap.size W w5 := HD4.out.trans (Below.mono (Below.grown (B := W.heap.size) (by first | exact ((more (Below.refl _ _) _).drew).mono y4 | exact (more (Below.refl _ _) _).mono y4 | exact (more ((Below.refl _ _).drew) _).mono y4 | exact (more (by assumption) _).mono y4) G5 (by first | omega | (simp; omega)) (fun k hk => (H4.out.lt k hk).1)) (Nat.le_refl _))
         have H5 : Hid (Own w5 W.heap.size v5 (zs ++ [x + 2 * y])) := O5
         clear O5 G5))
  all_goals
    have HFin : Hid (Own w5 w.heap.size v5 (jobN C Q F V S T e q) ∧ Below w.heap.size w w5) := by
      refine hide ⟨?_, HEnd.out.trans (D5.mono hs0)⟩
      have h := H5.out
      rw [HZ.out.1, ← HF.out] at h
      have := h.mono hs0
      simpa [jobN] using this
    clear H5 D5
    go_wp2
    go_ret
    refine ⟨v5, ?_, HFin.out⟩
    first | rfl | simp
end Go.Proofs.YtolmngfjdcoapaaDoor.sjob
