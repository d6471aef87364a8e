/- A command is laid down. -/
import Derived.Test.YtdhachmelgdknaaGreatDoorHed
import Derived.Test.YtdhachmelgdknaaGreatDoorWtl
namespace Go.Proofs.YtdhachmelgdknaaGreatDoor.rdr
open Go.ChangeShapes Go.WideShapes Go.ChangeAt Go.RowKit
open Go.Proofs.YtdhachmelgdknaaGreatDoor.bas
set_option linter.unusedVariables false
theorem info60 : (Tryz.prog.info? 60).map (fun i => (i.zero, i.size, i.bytes)) = some (some (.agg (sedA 0 0 false ⟨#[]⟩)), 26, 288) := by kernel_rfl
theorem info_parts {P : Program} {t : TypeId} {z : Value} {s b : Nat} (h : (P.info? t).map (fun i => (i.zero, i.size, i.bytes)) = some (some z, s, b)) : ∃ i, P.info? t = some i ∧ i.zero = some z ∧ i.size = s ∧ i.bytes = b := by
  cases hi : P.info? t with
  | none => rw [hi] at h; cases h
  | some i =>
    rw [hi] at h
    simp only [Option.map_some, Option.some.injEq, Prod.mk.injEq] at h
    exact ⟨i, rfl, h.1, h.2.1, h.2.2⟩
/-- A reader's block and another are written, new ones made. -/
structure Two (w w' : World) (d : Nat) (row : Option Nat) : Prop where
  os : w'.os = w.os
  tape : w'.tape = w.tape
  output : w'.output = w.output
  size : w.heap.size ≤ w'.heap.size
  block : ∀ k, k < w.heap.size → k ≠ d → some k ≠ row → w'.heap[k]? = w.heap[k]?
theorem zc60 : (Value.agg (sedA 0 0 false ⟨#[]⟩)).cells.size = 26 := rfl
theorem one_sedL (ak an : Int) (nt : Bool) (nm : ByteArray) : ∀ u ∈ (sedA ak an nt nm).toList, u.oneCell' = true := by simp [sedA, Value.oneCell']
theorem len_sedL (ak an : Int) (nt : Bool) (nm : ByteArray) : (sedA ak an nt nm).toList.length = 1 * 26 := rfl
theorem fold_sed (ak an : Int) (nt : Bool) (nm : ByteArray) : Array.foldl (fun (cs : Array Value) (x : Value × Nat) => cs.setIfInBounds x.snd x.fst) #[.int .i64 0, .int .i64 0, .int .i64 0, .int .i64 0, .int .i64 0, .string ⟨#[]⟩, .slice none 0 0, .int .i64 0, .int .i64 0, .int .i64 0, .int .i64 0, .int .i64 0, .string ⟨#[]⟩, .slice none 0 0, .bool false, .string ⟨#[]⟩, .string ⟨#[]⟩, .int .i64 0, .int .i64 0, .int .i64 0, .string ⟨#[]⟩, .slice none 0 0, .bool false, .bool false, .int .i64 0, .int .i64 0] (sedA ak an nt nm).zipIdx 0 26 = sedA ak an nt nm := by kernel_rfl
theorem new_at {w : World} {o : Obj} {k : Nat} (h : w.heap.size = k) : (w.alloc o).heap[k]? = some o := by subst h; exact heap_alloc_new w o
theorem RB.set6 {w : World} {d : Nat} {q : Q} (h : RB w d q) (v : Value) : RB (w.setCell ⟨d, 6, none⟩ v) d { q with ls := v } := by
  have := heap_setCell_same w d 6 _ 74 v h
  simpa [RB, Q.cells] using this
/-- Old blocks are as they were. -/
structure Old (w wx : World) (row : Option Nat) : Prop where
  os : wx.os = w.os
  tape : wx.tape = w.tape
  output : wx.output = w.output
  size : w.heap.size + 2 ≤ wx.heap.size
  block : ∀ k, k < w.heap.size → some k ≠ row → wx.heap[k]? = w.heap[k]?
theorem Old.of {w W wx : World} {row : Option Nat} (hB : Below w.heap.size w W) (hS : W.heap.size = w.heap.size + 2) (G : W.grownBy wx row) : Old w wx row :=
  ⟨G.os.trans hB.os, G.tape.trans hB.tape, G.output.trans hB.output, by have := G.size; omega, fun k hk hn => (G.block k (by omega) hn).trans (hB.block k hk)⟩
/-- Behind the adding of a command. -/
def AddE (base : Nat) (w : World) (d : Nat) (q : Q) (n : Nat) (xs : List Value) (w' : World) : Prop :=
  ∃ g cap, w'.ownsRow base 60 26 (.slice (some ⟨g, 0, none⟩) (n + 1) cap) (n + 1) xs ∧ RB w' d { q with ls := .slice (some ⟨g, 0, none⟩) (n + 1) cap } ∧ Two w w' d q.ls.ownBlock
theorem own_ne {base : Nat} {w : World} {d : Nat} {q : Q} {v : Value} {n : Nat} {ys : List Value} (h : RB w d q) (ho : w.ownsRow base 60 26 v n ys) : some d ≠ v.ownBlock := by
  intro e
  rcases ho.2 with ⟨hv, _⟩ | ⟨g', cap', cur, hv, _, hg, _⟩
  · rw [hv] at e; cases e
  · rw [hv] at e
    have : d = g' := by simpa [Value.ownBlock] using e
    subst this
    have := hg.symm.trans h
    simp at this
theorem add_fin {base : Nat} {w wx : World} {d : Nat} {q : Q} {n g cap : Nat} {xs ys : List Value} (h : RB w d q) (ho : w.ownsRow base 60 26 q.ls n ys) (O : wx.ownsRow base 60 26 (.slice (some ⟨g, 0, none⟩) (n + 1) cap) (n + 1) xs) (G : Old w wx q.ls.ownBlock) (L : q.ls.ownBlock = some g ∨ g = w.heap.size + 2) :
    (wx.cell? ⟨d, 6, none⟩ = some q.ls ∧ wx.frozen? ⟨d, 6, none⟩ = false) ∧ AddE base w d q n xs (wx.setCell ⟨d, 6, none⟩ (.slice (some ⟨g, 0, none⟩) (n + 1) cap)) := by
  have hd := h.lt
  have hdr := own_ne h ho
  have rb : RB wx d q := h.keep (G.block d hd hdr)
  have gd : g ≠ d := by
    rintro rfl
    rcases L with L | L
    · exact hdr L.symm
    · omega
  have os := G.size
  refine ⟨⟨cell_of rb rfl, frozen_of rb 6⟩, g, cap, ?_, rb.set6 _, ⟨G.os, G.tape, G.output, by simp; omega, fun k hk hkd hn => (Below.heap_setCell _ _ _ _ hkd).trans (G.block k hk hn)⟩⟩
  refine ⟨O.1, ?_⟩
  rcases O.2 with ⟨hv, _⟩ | ⟨g', cap', cur, hv, hbg, hg, hr⟩
  · cases hv
  · have e : g' = g := by simp only [Value.slice.injEq, Option.some.injEq, Addr.mk.injEq, and_true, true_and] at hv; exact hv.1.symm
    subst e
    exact .inr ⟨g', cap', cur, hv, hbg, (Below.heap_setCell _ _ _ _ gd).trans hg, hr⟩
set_option maxRecDepth 20000 in
set_option maxHeartbeats 3200000 in
theorem add_any (base : Nat) {d : Nat} {q : Q} {w : World} (h : RB w d q) (n : Nat) (ys : List Value) (ho : w.ownsRow base 60 26 q.ls n ys) (hb : base ≤ w.heap.size) (hn : n ≤ 100) (ak an : Int) (nt : Bool) (nm : ByteArray) :
    Calls Tryz.prog 108 #[.pointer (some ⟨d, 0, none⟩), .agg (sedA ak an nt nm)] w fun e w' => e = .returned (.tuple #[]) ∧ AddE base w d q n (ys ++ (sedA ak an nt nm).toList) w' := by
  obtain ⟨i0, hi, hz0, hz1, hz2⟩ := info_parts info60
  have HI : Hid (Tryz.prog.info? 60 = some i0 ∧ i0.zero = some (.agg (sedA 0 0 false ⟨#[]⟩)) ∧ i0.size = 26 ∧ i0.bytes = 288) := ⟨hi, hz0, hz1, hz2⟩
  clear hi hz0 hz1 hz2
  obtain ⟨T, ere, p, bg, nmm, tk, ls, op, lb, jp⟩ := q
  dsimp only at ho
  obtain ⟨lo, lc, rfl⟩ : ∃ lo lc, ls = .slice lo n lc := by
    obtain ⟨h1, ⟨e, hx⟩ | ⟨g, cap, cur, e, _⟩⟩ := ho
    · exact ⟨none, 0, by rw [e, hx]⟩
    · exact ⟨_, _, e⟩
  have HF : Hid (∀ (g cap : Nat) (wx : World), wx.ownsRow base 60 26 (.slice (some ⟨g, 0, none⟩) (n + 1) cap) (n + 1) (ys ++ (sedA ak an nt nm).toList) → Old w wx (Value.slice lo n lc).ownBlock → ((Value.slice lo n lc).ownBlock = some g ∨ g = w.heap.size + 2) → (wx.cell? ⟨d, 6, none⟩ = some (.slice lo n lc) ∧ wx.frozen? ⟨d, 6, none⟩ = false) ∧ AddE base w d ⟨T, ere, p, bg, nmm, tk, .slice lo n lc, op, lb, jp⟩ n (ys ++ (sedA ak an nt nm).toList) (wx.setCell ⟨d, 6, none⟩ (.slice (some ⟨g, 0, none⟩) (n + 1) cap))) := fun g cap wx O G L => add_fin (q := ⟨T, ere, p, bg, nmm, tk, .slice lo n lc, op, lb, jp⟩) h ho O G L
  have hd := h.lt
  obtain ⟨W0, hW0⟩ : ∃ W0, w.alloc (.cells (sedA ak an nt nm) 60) = W0 := ⟨_, rfl⟩
  have b0 : Below w.heap.size w W0 := by rw [← hW0]; exact more (Below.refl _ _) _
  have s0 : W0.heap.size = w.heap.size + 1 := by rw [← hW0]; exact World.size_alloc ..
  have x0 : W0.heap[w.heap.size]? = some (.cells (sedA ak an nt nm) 60 (0, 0)) := by rw [← hW0]; exact heap_alloc_new w _
  have rb0 := h.below b0
  have HO : Hid (W0.ownsRow base 60 26 (.slice lo n lc) n ys) := by rw [← hW0]; exact ho.alloc _
  have HS : Hid (∀ wx, Below W0.heap.size W0 wx → wx.cell? ⟨d, 6, none⟩ = some (.slice lo n lc) ∧ wx.heap[w.heap.size]? = some (.cells (sedA ak an nt nm) 60 (0, 0))) := fun wx hb => ⟨cell_at hb (cell_of rb0 rfl) (Nat.le_refl _), kept hb x0 (Nat.le_refl _)⟩
  obtain ⟨W4, hW4⟩ : ∃ W4, W0.drew = W4 := ⟨_, rfl⟩
  have hB4 : Hid (Below W0.heap.size W0 W4) := by rw [← hW4]; exact (Below.refl _ _).drew
  have hsz4 : W4.heap.size = w.heap.size + 1 := by rw [← hW4]; exact s0
  have HO4 : Hid (W4.ownsRow base 60 26 (.slice lo n lc) n ys) := by rw [← hW4]; exact HO.out.drew
  have HB0 := hide b0
  have HX0 := hide x0
  have HOb : Hid (some w.heap.size ≠ (Value.slice lo n lc).ownBlock) := fun e => by have := (World.ownsRow.lt ho w.heap.size e.symm).2; omega
  have hS := HS.out W4 hB4.out
  clear h ho b0 x0 rb0 HO
  go_enter Tryz.func108, Tryz.ntmps108
  go_wp2_with fail
  (try rw [hW0])
  clear hW0
  refine wtl.WT.start (S := fun wx => wx.cell? ⟨d, 6, none⟩ = some (.slice lo n lc) ∧ wx.heap[w.heap.size]? = some (.cells (sedA ak an nt nm) 60 (0, 0))) (n := 10) (by kernel_rfl) (by rfl) ?_
  rw [hW4]
  clear hW4
  refine wtl.WT.takeAt (i := 0) (v := ?_) (some 4) rfl rfl (by kernel_rfl) (fun _ _ _ h => h) (Or.inl ⟨by rfl, ?_⟩) hS ?_
  rotate_left
  · intro wx hSw
    (try dsimp only at hSw)
    go_simp
    all_goals (with_reducible rfl)
  refine wtl.WT.takeAt (i := 1) (v := ?_) (some 5) rfl rfl (by kernel_rfl) (fun _ _ _ h => h) (Or.inl ⟨by rfl, ?_⟩) hS ?_
  rotate_left
  · intro wx hSw
    (try dsimp only at hSw)
    go_simp
    all_goals (with_reducible rfl)
  refine wtl.WT.takeAt (i := 2) (v := ?_) (some 6) rfl rfl (by kernel_rfl) (fun _ _ _ h => h) (Or.inl ⟨by rfl, ?_⟩) hS ?_
  rotate_left
  · intro wx hSw
    (try dsimp only at hSw)
    go_simp
    all_goals (with_reducible rfl)
  refine wtl.WT.takeAt (i := 3) (v := ?_) (some 7) rfl rfl (by kernel_rfl) (fun _ _ _ h => h) (Or.inl ⟨by rfl, ?_⟩) hS ?_
  rotate_left
  · intro wx hSw
    (try dsimp only at hSw)
    go_simp
    all_goals (with_reducible rfl)
  refine wtl.WT.takeAt (i := 4) (v := ?_) (some 8) rfl rfl (by kernel_rfl) (fun _ _ _ h => h) (Or.inl ⟨by rfl, ?_⟩) hS ?_
  rotate_left
  · intro wx hSw
    (try dsimp only at hSw)
    go_simp
    all_goals (with_reducible rfl)
  refine wtl.WT.branch (rs := [5]) (by kernel_rfl) (by simp) (by decide) ?_
  intro i9 hi9
  obtain rfl := List.mem_singleton.1 hi9
  refine wtl.op_step rfl (fun K hK => ?_)
  rw [if_pos (by rfl)]
  refine wp_load_row 60 _ rfl w.heap.size rfl 60 _ (0, 0) _ hS.2 Tryz.underlying60 rfl (size60 _ _ _ _) ?_
  refine hK.out _ _ hS ?_
  clear hK K
  have hcs : (sedA ak an nt nm).size = 26 := rfl
  refine wtl.WT.branch (rs := [6]) (by kernel_rfl) (by simp) (by decide) ?_
  intro i9 hi9
  obtain rfl := List.mem_singleton.1 hi9
  refine wtl.op_step rfl (fun K hK => ?_)
  go_simp
  rw [fold_sed]
  obtain ⟨w1, ew1⟩ : ∃ W9, W4.alloc (.cells (sedA ak an nt nm) 60) = W9 := ⟨_, rfl⟩
  rw [ew1]
  have hB1 : Hid (Below W0.heap.size W0 w1) := by rw [← ew1]; exact more hB4.out _
  have hA1 : Hid (w1.heap[w.heap.size + 1]? = some (.cells (sedA ak an nt nm) 60 (0, 0))) := by rw [← ew1, ← hsz4]; exact heap_alloc_new _ _
  have hsz1 : w1.heap.size = w.heap.size + 2 := by rw [← ew1, World.size_alloc, hsz4]
  have HO1 : Hid (w1.ownsRow base 60 26 (.slice lo n lc) n ys) := by rw [← ew1]; exact HO4.out.alloc _
  (try rw [hsz4])
  clear ew1
  have hS1 := HS.out w1 hB1.out
  refine hK.out _ _ hS1 ?_
  clear hK K hS HO4
  have hS := hS1
  refine wtl.WT.branch (rs := [7]) (by kernel_rfl) (by simp) (by decide) ?_
  intro i9 hi9
  obtain rfl := List.mem_singleton.1 hi9
  refine wtl.op_step rfl (fun K hK => ?_)
  refine step_append_lies _ rfl _ _ 31 rfl base 60 i0 (.agg (sedA 0 0 false ⟨#[]⟩)) 26 288 Tryz.underlying31 HI.out.1 HI.out.2.1 HI.out.2.2.1 HI.out.2.2.2 zc60 (by decide) (.slice lo n lc) n ys rfl HO1.out ⟨w.heap.size + 1, 0, none⟩ 1 1 (sedA ak an nt nm).toList rfl (len_sedL _ _ _ _) (World.news_of_block hA1.out) (by exact one_sedL _ _ _ _) (by decide) (by unfold maxLen; omega) (by omega) (by omega) (w.heap.size + 2) hsz1 ?_
  intro g' cap' w2 O G L _
  obtain ⟨⟨y6, yf⟩, HX⟩ := HF.out g' cap' w2 O (Old.of (HB0.out.trans (hB1.out.mono (by omega))) hsz1 G) L
  have HX := hide HX
  have hS2 : w2.cell? ⟨d, 6, none⟩ = some (.slice lo n lc) ∧ w2.heap[w.heap.size]? = some (.cells (sedA ak an nt nm) 60 (0, 0)) := ⟨y6, by
    have e : w2.heap[w.heap.size]? = w1.heap[w.heap.size]? := G.block _ (by omega) HOb.out
    have y : w2.heap[w.heap.size]? = some (.cells (sedA ak an nt nm) 60 (0, 0)) := e.trans ((hB1.out.block _ (by omega)).trans HX0.out)
    exact y⟩
  refine hK.out _ _ hS2 ?_
  clear hK K hS O G L HO1 hA1
  have hS := hS2
  refine wtl.WT.takeAt (i := 8) (v := ?_) (some 12) rfl rfl (by kernel_rfl) (fun _ _ _ h => h) (Or.inl ⟨by rfl, ?_⟩) hS ?_
  rotate_left
  · intro wx hSw
    (try dsimp only at hSw)
    go_simp
    all_goals (with_reducible rfl)
  refine wtl.WT.takeAt (i := 9) (v := ?_) (some 13) rfl rfl (by kernel_rfl) (fun _ _ _ h => h) (Or.inl ⟨by rfl, ?_⟩) hS ?_
  rotate_left
  · intro wx hSw
    (try dsimp only at hSw)
    go_simp
    all_goals (with_reducible rfl)
  refine wtl.WT.last rfl (by kernel_rfl) (by kernel_rfl) (by kernel_rfl) (fun K hK => ?_)
  go_simp
  refine hK.out _ _ ?_
  clear hK K
  go_wp2_with fail
  go_end0
  exact ⟨rfl, HX.out⟩
end Go.Proofs.YtdhachmelgdknaaGreatDoor.rdr
