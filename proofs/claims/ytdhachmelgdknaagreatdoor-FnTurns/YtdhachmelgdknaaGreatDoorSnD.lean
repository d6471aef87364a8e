/- The specification's reader: the command d. -/
import Derived.Test.YtdhachmelgdknaaGreatDoorMH
namespace Go.Proofs.YtdhachmelgdknaaGreatDoor.spa
open Go.ChangeShapes Go.WideShapes Go.ChangeAt Go.RowKit
open Go.Proofs.YtdhachmelgdknaaGreatDoor.bas Go.Proofs.YtdhachmelgdknaaGreatDoor.rdr
set_option linter.unusedVariables false
set_option maxRecDepth 20000 in
set_option maxHeartbeats 6400000 in
theorem named_d (base : Nat) {d : Nat} {q : PQ} {w : World} (h : PB w d q) (n : Nat) (ys : List Value) (ho : w.ownsRow base 60 26 q.out n ys) (hb : base ≤ w.heap.size) (hn : n ≤ 100) (ak an : Int) (nt : Bool) (nm : ByteArray) (sp : Int) (k2 : Nat)
    (HE : ∀ W v, PB W d { q with out := v } → Calls Tryz.prog 65 #[.pointer (some ⟨d, 0, none⟩)] W fun e w' => e = .returned (.tuple #[]) ∧ Pv W d { q with out := v } k2 w') :
    Calls Tryz.prog 41 #[.pointer (some ⟨d, 0, none⟩), .agg (sedA ak an nt nm), .int .u8 100, .int .i64 sp] w fun e w' => e = .returned (.tuple #[]) ∧ NamE base w d { q with at_ := k2 } n (ys ++ (sedA ak an nt nm).toList) w' := by
  obtain ⟨i0, hi, hz0, hz1, hz2⟩ := info_parts info60
  have HI : Hid (Tryz.prog.info? 60 = some i0 ∧ i0.zero = some (.agg (sedA 0 0 false ⟨#[]⟩)) ∧ i0.size = 26 ∧ i0.bytes = 288) := ⟨hi, hz0, hz1, hz2⟩
  clear hi hz0 hz1 hz2
  obtain ⟨T, p, ere, ls⟩ := q
  dsimp only at ho HE ⊢
  obtain ⟨lo, lc, rfl⟩ : ∃ lo lc, ls = .slice lo n lc := by
    obtain ⟨h1, ⟨e, hx⟩ | ⟨g, cap, cur, e, _⟩⟩ := ho
    · exact ⟨none, 0, by rw [e, hx]⟩
    · exact ⟨_, _, e⟩
  have HF : Hid (∀ (g cap : Nat) (wx : World), wx.ownsRow base 60 26 (.slice (some ⟨g, 0, none⟩) (n + 1) cap) (n + 1) (ys ++ (sedA ak an nt nm).toList) → Old w wx (Value.slice lo n lc).ownBlock → ((Value.slice lo n lc).ownBlock = some g ∨ g = w.heap.size + 2) → (wx.cell? ⟨d, 5, none⟩ = some (.slice lo n lc) ∧ wx.frozen? ⟨d, 5, none⟩ = false) ∧ NamE base w d ⟨T, p, ere, .slice lo n lc⟩ n (ys ++ (sedA ak an nt nm).toList) (wx.setCell ⟨d, 5, none⟩ (.slice (some ⟨g, 0, none⟩) (n + 1) cap))) := fun g cap wx O G L => p_add_fin (q := ⟨T, p, ere, .slice lo n lc⟩) h ho O G L
  have hd := h.lt
  have HEE : Hid (∀ W, NamE base w d ⟨T, p, ere, .slice lo n lc⟩ n (ys ++ (sedA ak an nt nm).toList) W → Calls Tryz.prog 65 #[.pointer (some ⟨d, 0, none⟩)] W fun e w' => e = .returned (.tuple #[]) ∧ Hid (NamE base w d ⟨T, k2, ere, .slice lo n lc⟩ n (ys ++ (sedA ak an nt nm).toList) w')) := by
    intro W hN
    obtain ⟨g', cap', o, r, t⟩ := hN
    refine (HE W _ r).mono ?_
    rintro e w' ⟨rfl, hp⟩
    refine ⟨rfl, ?_⟩
    refine NamE.moved (q := ⟨T, p, ere, .slice lo n lc⟩) ⟨g', cap', o, r, t⟩ hd (fun v hv => ?_)
    have : v = Value.slice (some ⟨g', 0, none⟩) (n + 1) cap' := Option.some.inj (hv.c5.symm.trans r.c5)
    subst this
    exact hp
  obtain ⟨W0, hW0⟩ : ∃ W0, w.alloc (.cells (sedA ak an nt nm) 60) = W0 := ⟨_, rfl⟩
  have b0 : Below w.heap.size w W0 := by rw [← hW0]; exact more (Below.refl _ _) _
  have s0 : W0.heap.size = w.heap.size + 1 := by rw [← hW0]; exact World.size_alloc ..
  have x0 : W0.heap[w.heap.size]? = some (.cells (sedA ak an nt nm) 60 (0, 0)) := by rw [← hW0]; exact heap_alloc_new w _
  have rb0 := h.below b0
  have HO : Hid (W0.ownsRow base 60 26 (.slice lo n lc) n ys) := by rw [← hW0]; exact ho.alloc _
  have HS : Hid (∀ wx, Below W0.heap.size W0 wx → wx.cell? ⟨d, 5, none⟩ = some (.slice lo n lc) ∧ wx.heap[w.heap.size]? = some (.cells (sedA ak an nt nm) 60 (0, 0))) := fun wx hb => ⟨cell_at hb (cell_of rb0 rfl) (Nat.le_refl _), kept hb x0 (Nat.le_refl _)⟩
  obtain ⟨W4, hW4⟩ : ∃ W4, W0.drew = W4 := ⟨_, rfl⟩
  have hB4 : Hid (Below W0.heap.size W0 W4) := by rw [← hW4]; exact (Below.refl _ _).drew
  have hsz4 : W4.heap.size = w.heap.size + 1 := by rw [← hW4]; exact s0
  have HO4 : Hid (W4.ownsRow base 60 26 (.slice lo n lc) n ys) := by rw [← hW4]; exact HO.out.drew
  have HB0 := hide b0
  have HX0 := hide x0
  have HOb : Hid (some w.heap.size ≠ (Value.slice lo n lc).ownBlock) := fun e => by have := (World.ownsRow.lt ho w.heap.size e.symm).2; omega
  have hS := HS.out W4 hB4.out
  clear h ho b0 x0 rb0 HO HE
  go_enter Tryz.func41, Tryz.ntmps41
  go_wp2_with fail
  (try rw [hW0])
  clear hW0
  refine wtl.WT.start (S := fun wx => wx.cell? ⟨d, 5, none⟩ = some (.slice lo n lc) ∧ wx.heap[w.heap.size]? = some (.cells (sedA ak an nt nm) 60 (0, 0))) (n := 10) (by kernel_rfl) (by rfl) ?_
  rw [hW4]
  clear hW4
  refine wtl.WT.takeAt (i := 0) (v := ?_) (some 306) rfl rfl (by kernel_rfl) (fun _ _ _ h => h) (Or.inl ⟨by rfl, ?_⟩) hS ?_
  rotate_left
  · intro wx hSw
    (try dsimp only at hSw)
    go_simp
    all_goals (with_reducible rfl)
  refine wtl.WT.takeAt (i := 1) (v := ?_) (some 307) rfl rfl (by kernel_rfl) (fun _ _ _ h => h) (Or.inl ⟨by rfl, ?_⟩) hS ?_
  rotate_left
  · intro wx hSw
    (try dsimp only at hSw)
    go_simp
    all_goals (with_reducible rfl)
  refine wtl.WT.takeAt (i := 2) (v := ?_) (some 308) rfl rfl (by kernel_rfl) (fun _ _ _ h => h) (Or.inl ⟨by rfl, ?_⟩) hS ?_
  rotate_left
  · intro wx hSw
    (try dsimp only at hSw)
    go_simp
    all_goals (with_reducible rfl)
  refine wtl.WT.takeAt (i := 3) (v := ?_) (some 309) rfl rfl (by kernel_rfl) (fun _ _ _ h => h) (Or.inl ⟨by rfl, ?_⟩) hS ?_
  rotate_left
  · intro wx hSw
    (try dsimp only at hSw)
    go_simp
    all_goals (with_reducible rfl)
  refine wtl.WT.takeAt (i := 4) (v := ?_) (some 310) rfl rfl (by kernel_rfl) (fun _ _ _ h => h) (Or.inl ⟨by rfl, ?_⟩) hS ?_
  rotate_left
  · intro wx hSw
    (try dsimp only at hSw)
    go_simp
    all_goals (with_reducible rfl)
  refine wtl.WT.branch (rs := [5]) (by kernel_rfl) (by simp) (by decide) ?_
  intro i9 hi9
  obtain rfl := List.mem_singleton.1 hi9
  refine wtl.op_step rfl (fun K hK => ?_)
  rw [if_pos (by rfl)]
  refine wp_load_row 60 _ rfl w.heap.size rfl 60 _ (0, 0) _ hS.2 Tryz.underlying60 rfl (size60 _ _ _ _) ?_
  refine hK.out _ _ hS ?_
  clear hK K
  have hcs : (sedA ak an nt nm).size = 26 := rfl
  refine wtl.WT.branch (rs := [6]) (by kernel_rfl) (by simp) (by decide) ?_
  intro i9 hi9
  obtain rfl := List.mem_singleton.1 hi9
  refine wtl.op_step rfl (fun K hK => ?_)
  go_simp
  rw [fold_sed]
  obtain ⟨w1, ew1⟩ : ∃ W9, W4.alloc (.cells (sedA ak an nt nm) 60) = W9 := ⟨_, rfl⟩
  rw [ew1]
  have hB1 : Hid (Below W0.heap.size W0 w1) := by rw [← ew1]; exact more hB4.out _
  have hA1 : Hid (w1.heap[w.heap.size + 1]? = some (.cells (sedA ak an nt nm) 60 (0, 0))) := by rw [← ew1, ← hsz4]; exact heap_alloc_new _ _
  have hsz1 : w1.heap.size = w.heap.size + 2 := by rw [← ew1, World.size_alloc, hsz4]
  have HO1 : Hid (w1.ownsRow base 60 26 (.slice lo n lc) n ys) := by rw [← ew1]; exact HO4.out.alloc _
  (try rw [hsz4])
  clear ew1
  have hS1 := HS.out w1 hB1.out
  refine hK.out _ _ hS1 ?_
  clear hK K hS HO4
  have hS := hS1
  refine wtl.WT.branch (rs := [7]) (by kernel_rfl) (by simp) (by decide) ?_
  intro i9 hi9
  obtain rfl := List.mem_singleton.1 hi9
  refine wtl.op_step rfl (fun K hK => ?_)
  refine step_append_lies _ rfl _ _ 31 rfl base 60 i0 (.agg (sedA 0 0 false ⟨#[]⟩)) 26 288 Tryz.underlying31 HI.out.1 HI.out.2.1 HI.out.2.2.1 HI.out.2.2.2 zc60 (by decide) (.slice lo n lc) n ys rfl HO1.out ⟨w.heap.size + 1, 0, none⟩ 1 1 (sedA ak an nt nm).toList rfl (len_sedL _ _ _ _) (World.news_of_block hA1.out) (by exact one_sedL _ _ _ _) (by decide) (by unfold maxLen; omega) (by omega) (by omega) (w.heap.size + 2) hsz1 ?_
  intro g' cap' w2 O G L _
  obtain ⟨⟨y6, yf⟩, HX⟩ := HF.out g' cap' w2 O (Old.of (HB0.out.trans (hB1.out.mono (by omega))) hsz1 G) L
  have HX := hide HX
  have hS2 : w2.cell? ⟨d, 5, none⟩ = some (.slice lo n lc) ∧ w2.heap[w.heap.size]? = some (.cells (sedA ak an nt nm) 60 (0, 0)) := ⟨y6, by
    have e : w2.heap[w.heap.size]? = w1.heap[w.heap.size]? := G.block _ (by omega) HOb.out
    have y : w2.heap[w.heap.size]? = some (.cells (sedA ak an nt nm) 60 (0, 0)) := e.trans ((hB1.out.block _ (by omega)).trans HX0.out)
    exact y⟩
  refine hK.out _ _ hS2 ?_
  clear hK K hS O G L HO1 hA1
  have hS := hS2
  refine wtl.WT.takeAt (i := 8) (v := ?_) (some 314) rfl rfl (by kernel_rfl) (fun _ _ _ h => h) (Or.inl ⟨by rfl, ?_⟩) hS ?_
  rotate_left
  · intro wx hSw
    (try dsimp only at hSw)
    go_simp
    all_goals (with_reducible rfl)
  refine wtl.WT.takeAt (i := 9) (v := ?_) (some 315) rfl rfl (by kernel_rfl) (fun _ _ _ h => h) (Or.inl ⟨by rfl, ?_⟩) hS ?_
  rotate_left
  · intro wx hSw
    (try dsimp only at hSw)
    go_simp
    all_goals (with_reducible rfl)
  refine wtl.WT.last rfl (by kernel_rfl) (by kernel_rfl) (by kernel_rfl) (fun K hK => ?_)
  go_simp
  refine hK.out _ _ ?_
  clear hK K
  have HY := hide (HEE.out _ HX.out)
  go_wp2_with fail
  refine HY.out.mono ?_
  rintro e w9 ⟨rfl, HZ⟩
  clear HY
  go_wp2
  go_end0
  exact ⟨rfl, HZ.out⟩
end Go.Proofs.YtdhachmelgdknaaGreatDoor.spa
