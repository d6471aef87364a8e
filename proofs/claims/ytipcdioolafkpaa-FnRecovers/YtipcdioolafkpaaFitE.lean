/- The program's fits: an entry. -/
import Derived.Test.YtipcdioolafkpaaLogPut
namespace Go.Proofs.Ytipcdioolafkpaa.fite
open Go.ChangeShapes Go.WideShapes Go.ChangeAt Go.RowKit
open Go.Proofs.Ytipcdioolafkpaa.bytes Go.Proofs.Ytipcdioolafkpaa.pile Go.Proofs.Ytipcdioolafkpaa.put Go.Proofs.Ytipcdioolafkpaa.crcs Go.Proofs.Ytipcdioolafkpaa.join Go.Proofs.Ytipcdioolafkpaa.frames Go.Proofs.Ytipcdioolafkpaa.get Go.Proofs.Ytipcdioolafkpaa.dec Go.Proofs.Ytipcdioolafkpaa.take Go.Proofs.Ytipcdioolafkpaa.one Go.Proofs.Ytipcdioolafkpaa.votes Go.Proofs.Ytipcdioolafkpaa.pays Go.Proofs.Ytipcdioolafkpaa.rechelp Go.Proofs.Ytipcdioolafkpaa.recrows Go.Proofs.Ytipcdioolafkpaa.recov Go.Proofs.Ytipcdioolafkpaa.fits Go.Proofs.Ytipcdioolafkpaa.logput
set_option linter.unusedVariables false

theorem cell_three_new (w : World) (e : Nat) (x0 x1 x2 : Value) : ∀ j u, [x0, x1, x2][j]? = some u → (w.alloc (.cells #[x0, x1, x2] e)).cell? ((⟨w.heap.size, 0, none⟩ : Addr).add j) = some u := by
  intro j u hj
  have hb := heap_alloc_new w (.cells #[x0, x1, x2] e)
  rcases j with _ | _ | _ | j
  · exact cell_of hb hj
  · exact cell_of hb hj
  · exact cell_of hb hj
  · simp at hj
theorem row_some {w : World} {base : Nat} {v : Value} {n : Nat} {cs : List Value} (h : w.ownsRow base 92 3 v (n + 1) cs) : ∃ g c, v = .slice (some ⟨g, 0, none⟩) (n + 1) c := by
  obtain ⟨_, ⟨_, h0⟩ | ⟨g, cap, cur, rfl, _⟩⟩ := h
  · omega
  · exact ⟨_, _, rfl⟩
theorem spare_at {w : World} {g off N cap : Nat} {cur : Array Value} (hg : w.heap[g]? = some (.cells cur 92 (0, 0))) (hs : off + cap * 3 ≤ cur.size) (hN : N + 1 ≤ cap) : ∀ j, j < 3 → (w.cell? ⟨g, off + N * 3 + j, none⟩).isSome = true ∧ w.frozen? ⟨g, off + N * 3 + j, none⟩ = false := fun j hj => by
  refine ⟨?_, frozen_of hg _⟩
  have : cur[off + N * 3 + j]? = some (cur[off + N * 3 + j]'(by omega)) := Array.getElem?_eq_getElem (by omega)
  rw [cell_of hg this]
  rfl

set_option maxRecDepth 20000 in
set_option maxHeartbeats 4000000 in
theorem fitEntry_any (w : World) (B rb : Nat) (dv : Value) (a : Nat) (s : St) (lv : Value) (us : List Value) (good : Nat) (h : RV w B rb dv a s lv us good) (hr : rb < B) (hBw : B ≤ w.heap.size) (x y : Int) (hy : 0 ≤ y ∧ y ≤ 1000000) (hs : 0 ≤ s.base ∧ s.base ≤ 1000000) (o : Option Addr) (n c : Nat) (d : List Int) (hu : Own w B (.slice o n c) d)
    (hap : ∀ b, (Value.slice o n c).ownBlock = some b → ∀ j, j < us.length → (us.getD j (.slice none 0 0)).ownBlock ≠ some b) :
    Calls Try.prog 88 #[.pointer (some ⟨rb, 0, none⟩), .agg #[.int .i64 x, .int .i64 y, .slice o n c]] w (FitE w B rb dv a s good (fitE s x y d)) := by
  obtain ⟨i0, hi, hz0, hz1, hz2⟩ := info_parts info43
  have HI : Hid (Try.prog.info? 92 = some i0 ∧ i0.zero = some (.agg #[.int .i64 0, .int .i64 0, .slice none 0 0]) ∧ i0.size = 3 ∧ i0.bytes = 40) := ⟨hi, hz0, hz1, hz2⟩
  clear hi hz0 hz1 hz2
  have hlt : rb < w.heap.size := (Array.getElem?_eq_some_iff.1 h.blk).1
  have HRV : Hid (RV w B rb dv a s lv us good) := h
  have HU : Hid (Own w B (.slice o n c) d ∧ ∀ b, (Value.slice o n c).ownBlock = some b → ∀ j, j < us.length → (us.getD j (.slice none 0 0)).ownBlock ≠ some b) := ⟨hu, hap⟩
  obtain ⟨W, hW⟩ : ∃ W, W = w.alloc (.cells #[.int .i64 x, .int .i64 y, .slice o n c] 122) := ⟨_, rfl⟩
  have hk : W.heap[rb]? = some (.cells (rcells dv a s lv good) 86 (0, 0)) := by rw [hW, Below.heap_alloc _ _ _ hlt]; exact h.blk
  have hn : W.heap[w.heap.size]? = some (.cells #[.int .i64 x, .int .i64 y, .slice o n c] 122 (0, 0)) := by rw [hW]; exact heap_alloc_new w _
  have d0 : W.cell? ⟨w.heap.size, 0, none⟩ = some (.int .i64 x) := cell_of hn rfl
  have d1 : W.cell? ⟨w.heap.size, 1, none⟩ = some (.int .i64 y) := cell_of hn rfl
  have d2 : W.cell? ⟨w.heap.size, 2, none⟩ = some (.slice o n c) := cell_of hn rfl
  obtain ⟨ao, cap, hlv, hl1, hl2, _⟩ := h.log.row
  subst hlv
  have hcm : Hid (cap ≤ maxLen) := hl2
  unfold maxLen at hl2
  have e4 : W.cell? ⟨rb, 4, none⟩ = some (.int .i64 s.base) := cell_of hk rfl
  have e6 : W.cell? ⟨rb, 6, none⟩ = some (.slice ao s.log.length cap) := cell_of hk rfl
  have g6 := frozen_of hk 6
  have HK : Hid (W.heap[rb]? = some (.cells (rcells dv a s (.slice ao s.log.length cap) good) 86 (0, 0))) := hk
  have hne : w.heap.size ≠ rb := by omega
  have hne2 : rb ≠ w.heap.size := by omega
  have hgw : Hid (∀ n, w.grownBy (W.drewN n) (some rb)) := fun n => by rw [hW]; exact grown_trans (alloc_grown _ _ _) (drew_grown _ _ _)
  have HRW : Hid (∀ n, RV (W.drewN n) B rb dv a s (.slice ao s.log.length cap) us good) := fun n => RV.grown HRV.out (hgw.out n) hr rfl HK.out
  have HUW : Hid (∀ n, Own (W.drewN n) B (.slice o n c) d) → True := fun _ => trivial
  clear HUW h hk hn hu hap
  by_cases h1 : y - s.base - 1 < 0
  · have HF : Hid (fitE s x y d = none) := by unfold Hid fitE; rw [if_pos (.inl h1)]
    rw [HF.out]
    go_enter Try.func88, Try.ntmps88
    go_wp2
    rw [← hW]
    clear hW
    go_quiet (fail)
    go_wp2
    go_ret
    exact ⟨rfl, ⟨_, us, HRW.out _⟩, below_of (hgw.out _) (Array.getElem?_eq_some_iff.1 HRV.out.blk).1⟩
  by_cases h2 : (s.log.length : Int) < y - s.base - 1
  · have HF : Hid (fitE s x y d = none) := by unfold Hid fitE; rw [if_pos (.inr (.inl h2))]
    rw [HF.out]
    go_enter Try.func88, Try.ntmps88
    go_wp2
    rw [← hW]
    clear hW
    go_quiet (fail)
    go_wp2
    go_ret
    exact ⟨rfl, ⟨_, us, HRW.out _⟩, below_of (hgw.out _) (Array.getElem?_eq_some_iff.1 HRV.out.blk).1⟩
  by_cases h3 : (100 : Int) ≤ y - s.base - 1
  · have HF : Hid (fitE s x y d = none) := by unfold Hid fitE; rw [if_pos (.inr (.inr h3))]
    rw [HF.out]
    go_enter Try.func88, Try.ntmps88
    go_wp2
    rw [← hW]
    clear hW
    go_quiet (fail)
    go_wp2
    go_ret
    exact ⟨rfl, ⟨_, us, HRW.out _⟩, below_of (hgw.out _) (Array.getElem?_eq_some_iff.1 HRV.out.blk).1⟩
  have HF : Hid (fitE s x y d = some { s with log := s.log.take ((y - s.base).toNat - 1) ++ [⟨x, y, d⟩] }) := by
    unfold Hid fitE
    rw [if_neg (by omega), show (y - s.base - 1).toNat = (y - s.base).toNat - 1 by omega]
  rw [HF.out]
  have hN : ((y - s.base).toNat - 1) ≤ s.log.length := by omega
  obtain ⟨ao', n', cap', eR, hR⟩ := HRV.out.room
  simp only [Value.slice.injEq] at eR
  obtain ⟨rfl, rfl, rfl⟩ := eR
  by_cases hroom : ((y - s.base).toNat - 1) + 1 ≤ cap
  · rcases hR with ⟨_, _, hc0⟩ | ⟨g, off, cur, rfl, hBg, hg, hsz⟩
    · omega
    have hS0 : (0 : Int) ≤ y - s.base - 1 := by omega
    have hSc : y - s.base - 1 ≤ (cap : Int) := by omega
    have hgW : W.heap[g]? = some (.cells cur 92 (0, 0)) := by rw [hW, Below.heap_alloc _ _ _ (Array.getElem?_eq_some_iff.1 hg).1]; exact hg
    have hglt : g < W.heap.size := (Array.getElem?_eq_some_iff.1 hgW).1
    have HGx : Hid (∀ k O, ((W.drewN k).alloc O).heap[g]? = some (.cells cur 92 (0, 0))) := fun k O => by
      rw [Below.heap_alloc _ _ _ (by exact hglt)]; exact hgW
    have hrlt : rb < W.heap.size := (Array.getElem?_eq_some_iff.1 HK.out).1
    have HKx : Hid (∀ k O, (((W.drewN k).alloc O).setCells g (off + ((y - s.base).toNat - 1) * 3) [.int .i64 x, .int .i64 y, .slice o n c]).heap[rb]? = some (.cells (rcells dv a s (.slice (some ⟨g, off, none⟩) s.log.length cap) good) 86 (0, 0))) := fun k O => by
      rw [(set3_grown ((W.drewN k).alloc O) g _ _ _ _).block rb (by simp; exact Nat.lt_succ_of_lt hrlt) (by simp; omega), Below.heap_alloc _ _ _ (by exact hrlt)]
      exact HK.out
    have q6a : ∀ k O, ((W.drewN k).alloc O).cell? ⟨rb, 6, none⟩ = some (.slice (some ⟨g, off, none⟩) s.log.length cap) := fun k O => cell_of (b := rb) (by rw [Below.heap_alloc _ _ _ (by exact hrlt)]; exact HK.out) rfl
    have hneW : rb ≠ W.heap.size := by omega
    have hneW2 : W.heap.size ≠ rb := by omega
    have q6 : ∀ k O, (((W.drewN k).alloc O).setCells g (off + ((y - s.base).toNat - 1) * 3) [.int .i64 x, .int .i64 y, .slice o n c]).cell? ⟨rb, 6, none⟩ = some (.slice (some ⟨g, off, none⟩) s.log.length cap) := fun k O => cell_of (HKx.out k O) rfl
    have z6 : ∀ k O, (((W.drewN k).alloc O).setCells g (off + ((y - s.base).toNat - 1) * 3) [.int .i64 x, .int .i64 y, .slice o n c]).frozen? ⟨rb, 6, none⟩ = false := fun k O => frozen_of (HKx.out k O) 6
    have HL : Hid (∀ k O, OwnRecs ((W.drewN k).alloc O) B (.slice (some ⟨g, off, none⟩) s.log.length cap) s.log us ∧ Room ((W.drewN k).alloc O) B (.slice (some ⟨g, off, none⟩) s.log.length cap) ∧ Own ((W.drewN k).alloc O) B (.slice o n c) d) := fun k O => by
      have hg' : w.grownBy ((W.drewN k).alloc O) (some rb) := grown_trans (hgw.out k) (alloc_grown _ _ _)
      exact ⟨OwnRecs.grown HRV.out.log hg' hr, Room.grown HRV.out.room hg' hr, own_keptR HU.out.1 hg' (fun j hj e => by simp only [Option.some.injEq] at e; have := (HU.out.1.lt j hj).1; omega)⟩
    go_enter Try.func88, Try.ntmps88
    go_wp2
    rw [← hW]
    clear hW
    go_quiet (fail)
    go_wp2
    go_region_law (refine step_append_room rfl (.tmp 38) (.tmp 40) 50 rfl 92 i0 3 Try.underlying50 HI.out.1 HI.out.2.2.1 g off _ cap rfl ⟨W.heap.size, 0, none⟩ 1 1 [.int .i64 x, .int .i64 y, .slice o n c] rfl rfl (cell_three_new _ _ _ _ _) (by intro u hu; simp at hu; rcases hu with rfl | rfl | rfl <;> rfl) hroom (spare_at (HGx.out _ _) hsz hroom) ?_)
    all_goals go_wp2
    all_goals
      go_ret
      obtain ⟨p1, p2⟩ := put_room (w := (W.drewN (nq + 1)).alloc (.cells #[.int .i64 x, .int .i64 y, .slice o n c] 92)) (N := (y - s.base).toNat - 1) (HL.out _ _).1 (HL.out _ _).2.1 (by omega) hroom hcm.out (x := x) (y := y) (HL.out _ _).2.2 HU.out.2
      have k6 := set_at (HKx.out (nq + 1) (.cells #[.int .i64 x, .int .i64 y, .slice o n c] 92)) 6 (.slice (some ⟨g, off, none⟩) ((y - s.base).toNat - 1 + 1) cap) (cur' := rcells dv a { s with log := s.log.take ((y - s.base).toNat - 1) ++ [⟨x, y, d⟩] } (.slice (some ⟨g, off, none⟩) ((y - s.base).toNat - 1 + 1) cap) good) rfl
      refine ⟨rfl, ⟨_, _, ⟨k6, OwnRecs.grown p1 (set_grown _ _ _ _) hr, Room.grown p2 (set_grown _ _ _ _) hr⟩⟩, ?_⟩
      have hw0 := (Array.getElem?_eq_some_iff.1 HRV.out.blk).1
      have b0 : Below rb w ((W.drewN (nq + 1)).alloc (.cells #[.int .i64 x, .int .i64 y, .slice o n c] 92)) := below_of (grown_trans (hgw.out _) (alloc_grown _ _ _)) hw0
      have b1 := b0.grown (set3_grown _ g (off + ((y - s.base).toNat - 1) * 3) (.int .i64 x) (.int .i64 y) (.slice o n c)) (by have := b0.size; omega) (fun j hj => by simp only [Option.some.injEq] at hj; omega)
      exact b1.grown (set_grown _ rb 6 _) (by have := b1.size; omega) (fun j hj => by simp only [Option.some.injEq] at hj; omega)
  · obtain ⟨olds, hol, holdc, hold⟩ : ∃ olds : List Value, olds.length = ((y - s.base).toNat - 1) * 3 ∧ (∀ k O b, ao = some b → ∀ j u, olds[j]? = some u → ((W.drewN k).alloc O).cell? (b.add j) = some u) ∧ ∀ k, k < (y - s.base).toNat - 1 → olds[k * 3]? = some (.int .i64 (s.log.getD k zRec).t) ∧ olds[k * 3 + 1]? = some (.int .i64 (s.log.getD k zRec).i) ∧ olds[k * 3 + 2]? = some (us.getD k (.slice none 0 0)) := by
      rcases hR with ⟨rfl, h0, hc0⟩ | ⟨g, off, cur, rfl, hBg, hg, hsz⟩
      · exact ⟨[], by simp; omega, fun _ _ _ e => by simp at e, fun k hk => by omega⟩
      · have hgW : W.heap[g]? = some (.cells cur 92 (0, 0)) := by rw [hW, Below.heap_alloc _ _ _ (Array.getElem?_eq_some_iff.1 hg).1]; exact hg
        have hglt : g < W.heap.size := (Array.getElem?_eq_some_iff.1 hgW).1
        refine ⟨oldC cur off ((y - s.base).toNat - 1), oldC_length hsz (by omega), fun k O b e j u hj => ?_, fun k hk => ?_⟩
        · simp only [Option.some.injEq] at e
          subst e
          have hjl : j < ((y - s.base).toNat - 1) * 3 := by
            have := (List.getElem?_eq_some_iff.1 hj).1
            rw [oldC_length hsz (by omega)] at this
            exact this
          rw [oldC_get hjl] at hj
          have hadd : (⟨g, off, none⟩ : Addr).add j = ⟨g, off + j, none⟩ := by
            unfold Addr.add
            split
            · rename_i h; rw [h]; rfl
            · rfl
          rw [hadd]
          exact cell_of (by rw [Below.heap_alloc _ _ _ (by exact hglt)]; exact hgW) hj
        · obtain ⟨ao', cap', e, _, _, h4⟩ := HRV.out.log.row
          simp only [Value.slice.injEq, true_and] at e
          obtain ⟨rfl, rfl⟩ := e
          obtain ⟨g2, off2, cur2, e3, _, hg2, hcells⟩ := h4 (by omega)
          simp only [Option.some.injEq, Addr.mk.injEq, and_true] at e3
          obtain ⟨rfl, rfl⟩ := e3
          rw [hg] at hg2
          simp only [Option.some.injEq, Obj.cells.injEq, and_true] at hg2
          subst hg2
          rw [oldC_get (by omega), oldC_get (by omega), oldC_get (by omega), ← Nat.add_assoc, ← Nat.add_assoc]
          exact hcells k (by omega)
    have HOld : Hid (olds.length = ((y - s.base).toNat - 1) * 3 ∧ (∀ k O b, ao = some b → ∀ j u, olds[j]? = some u → ((W.drewN k).alloc O).cell? (b.add j) = some u) ∧ ∀ k, k < (y - s.base).toNat - 1 → olds[k * 3]? = some (.int .i64 (s.log.getD k zRec).t) ∧ olds[k * 3 + 1]? = some (.int .i64 (s.log.getD k zRec).i) ∧ olds[k * 3 + 2]? = some (us.getD k (.slice none 0 0))) := ⟨hol, holdc, hold⟩
    have hnone : Hid (ao = none → (y - s.base).toNat - 1 = 0 ∧ cap = 0) := fun e => by
      rcases hR with ⟨_, h0, hc0⟩ | ⟨g, off, cur, e2, _⟩
      · exact ⟨by omega, hc0⟩
      · rw [e] at e2; simp at e2
    clear hol holdc hold hR
    have hS0 : (0 : Int) ≤ y - s.base - 1 := by omega
    have hSc : y - s.base - 1 ≤ (cap : Int) := by omega
    have hrlt : rb < W.heap.size := (Array.getElem?_eq_some_iff.1 HK.out).1
    have q6a : ∀ k O, ((W.drewN k).alloc O).cell? ⟨rb, 6, none⟩ = some (.slice ao s.log.length cap) := fun k O => cell_of (b := rb) (by rw [Below.heap_alloc _ _ _ (by exact hrlt)]; exact HK.out) rfl
    have HKa : Hid (∀ k O, ((W.drewN k).alloc O).heap[rb]? = some (.cells (rcells dv a s (.slice ao s.log.length cap) good) 86 (0, 0))) := fun k O => by rw [Below.heap_alloc _ _ _ (by exact hrlt)]; exact HK.out
    have hfull : cap < (y - s.base).toNat - 1 + 1 := by omega
    have hN100 : (y - s.base).toNat - 1 + 1 ≤ 100 := by omega
    have HL : Hid (∀ k O, OwnRecs ((W.drewN k).alloc O) B (.slice ao s.log.length cap) s.log us ∧ Own ((W.drewN k).alloc O) B (.slice o n c) d ∧ B ≤ ((W.drewN k).alloc O).heap.size) := fun k O => by
      have hg' : w.grownBy ((W.drewN k).alloc O) (some rb) := grown_trans (hgw.out k) (alloc_grown _ _ _)
      exact ⟨OwnRecs.grown HRV.out.log hg' hr, own_keptR HU.out.1 hg' (fun j hj e => by simp only [Option.some.injEq] at e; have := (HU.out.1.lt j hj).1; omega), by have := hg'.size; omega⟩
    go_enter Try.func88, Try.ntmps88
    go_wp2
    rw [← hW]
    clear hW
    go_quiet (fail)
    go_wp2
    go_region_law ((refine step_append_grows rfl (.tmp 38) (.tmp 40) 50 rfl 92 i0 (.agg #[.int .i64 0, .int .i64 0, .slice none 0 0]) 3 40 Try.underlying50 HI.out.1 HI.out.2.1 HI.out.2.2.1 HI.out.2.2.2 rfl (by decide) ao ((y - s.base).toNat - 1) cap olds rfl hnone.out HOld.out.1 (HOld.out.2.1 _ _) ⟨W.heap.size, 0, none⟩ 1 1 [.int .i64 x, .int .i64 y, .slice o n c] rfl rfl (cell_three_new _ _ _ _ _) (by intro u hu; simp at hu; rcases hu with rfl | rfl | rfl <;> rfl) hfull (by unfold maxLen; omega) (by omega) ?_; intro v9 w9 hown9 hgrow9; obtain ⟨gg, gc, rfl⟩ := row_some hown9; have H9 := hide (And.intro hown9 hgrow9); have k9 : w9.heap[rb]? = some (.cells (rcells dv a s (.slice ao s.log.length cap) good) 86 (0, 0)) := (hgrow9.block rb (by simp; exact Nat.lt_succ_of_lt hrlt) (by simp)).trans (HKa.out _ _); have q9 : w9.cell? ⟨rb, 6, none⟩ = some (.slice ao s.log.length cap) := (cell_of k9 rfl); have z9 := frozen_of k9 6; have HK9 := hide k9; clear hown9 hgrow9 k9))
    all_goals go_wp2
    all_goals
      go_ret
      obtain ⟨p1, p2⟩ := put_grow (N := (y - s.base).toNat - 1) (HL.out (nq + 1) (.cells #[.int .i64 x, .int .i64 y, .slice o n c] 92)).1 (HL.out _ _).2.2 (by omega) (x := x) (y := y) (HL.out _ _).2.1 HU.out.2 olds HOld.out.1 HOld.out.2.2 H9.out.1 H9.out.2
      have k6 := set_at HK9.out 6 (.slice (some ⟨gg, 0, none⟩) ((y - s.base).toNat - 1 + 1) gc) (cur' := rcells dv a { s with log := s.log.take ((y - s.base).toNat - 1) ++ [⟨x, y, d⟩] } (.slice (some ⟨gg, 0, none⟩) ((y - s.base).toNat - 1 + 1) gc) good) rfl
      refine ⟨rfl, ⟨_, _, ⟨k6, OwnRecs.grown p1 (set_grown _ _ _ _) hr, Room.grown p2 (set_grown _ _ _ _) hr⟩⟩, ?_⟩
      have hw0 := (Array.getElem?_eq_some_iff.1 HRV.out.blk).1
      have b0 : Below rb w ((W.drewN (nq + 1)).alloc (.cells #[.int .i64 x, .int .i64 y, .slice o n c] 92)) := below_of (grown_trans (hgw.out _) (alloc_grown _ _ _)) hw0
      have b1 := b0.grown H9.out.2 (by have := b0.size; omega) (fun j hj => by simp at hj)
      exact b1.grown (set_grown _ rb 6 _) (by have := b1.size; omega) (fun j hj => by simp only [Option.some.injEq] at hj; omega)
end Go.Proofs.Ytipcdioolafkpaa.fite
