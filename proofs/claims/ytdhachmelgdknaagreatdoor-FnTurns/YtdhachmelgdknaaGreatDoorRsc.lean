/- A whole script is read. -/
import Derived.Test.YtdhachmelgdknaaGreatDoorScr
import Derived.Defers
import Derived.Recover
namespace Go.Proofs.YtdhachmelgdknaaGreatDoor.rdr
open Go.ChangeShapes Go.WideShapes Go.ChangeAt Go.RowKit
open Go.Proofs.YtdhachmelgdknaaGreatDoor.bas Go.Proofs.YtdhachmelgdknaaGreatDoor.tak
set_option linter.unusedVariables false
set_option maxRecDepth 20000 in
set_option maxHeartbeats 2000000 in
theorem idle32 (p q : Addr) (w : World) :
    CallsD Tryz.prog 32 #[.pointer (some p), .pointer (some q)] .returning w fun e u' w' => e = .returned (.tuple #[]) ∧ u' = .returning ∧ ∃ o, w' = w.alloc o := by
  have hta : ∀ W : World, (Instr.typeAssert .nilIface 20 42 true).run Tryz.prog W = .ok (.tuple #[.agg #[.int .i64 0, .int .i64 0], .bool false]) W := fun W => by kernel_rfl
  refine callsD_of_wpS Tryz.func32 rfl fun c₀ cs hu => ?_
  apply wpS_seq
  apply wpS_region
  simp [wpOpsS, go_sem, recoverD, hu, Tryz.ntmps32, Exit.thenS, hta]
  apply wpS_seq
  apply wpS_region
  simp [wpOpsS, go_sem, Exit.thenS, Array.replicate]
  refine wpS_cond (t := false) (by simp [Act.eval]) ?_
  simp only [Bool.false_eq_true, if_false]
  refine wpS_of_wp (wp_skip ?_)
  cases c₀
  simp_all [bodyPostS, results, Tryz.results32]
  exact ⟨_, rfl⟩
/-- The answer of a whole script. -/
def RsE (w : World) (cs : List Cm) (e : Ending) (w' : World) : Prop :=
  ∃ v, e = .returned (.tuple #[v, .agg #[.int .i64 0, .int .i64 0]]) ∧ w'.ownsRow w.heap.size 60 26 v cs.length (cs.flatMap fun c => c.cells.toList) ∧ Below w.heap.size w w'
set_option maxHeartbeats 3200000 in
theorem readScript_any (w : World) (T : ByteArray) (ere : Bool) (cs : List Cm) (hT : T.size ≤ 2000) (hs : Scr T 0 cs) (hn : cs.length < 60) :
    Calls Tryz.prog 18 #[.string T, .bool ere] w fun e w' => RsE w cs e w' := by
  obtain ⟨W0, hW0⟩ : ∃ W0, w.alloc (.cells #[.slice none 0 0] 31) = W0 := ⟨_, rfl⟩
  obtain ⟨W1, hW1⟩ : ∃ W1, W0.alloc (.cells #[.int .i64 0, .int .i64 0] 42) = W1 := ⟨_, rfl⟩
  have b0 : Below w.heap.size w W0 := by rw [← hW0]; exact more (Below.refl _ _) _
  have b1 : Below W0.heap.size W0 W1 := by rw [← hW1]; exact more (Below.refl _ _) _
  have s0 : W0.heap.size = w.heap.size + 1 := by rw [← hW0]; exact World.size_alloc ..
  have s1 : W1.heap.size = w.heap.size + 2 := by rw [← hW1, World.size_alloc, s0]
  have x0 : W0.heap[w.heap.size]? = some (.cells #[.slice none 0 0] 31 (0, 0)) := by rw [← hW0]; exact heap_alloc_new w _
  have x1 : W1.heap[w.heap.size + 1]? = some (.cells #[.int .i64 0, .int .i64 0] 42 (0, 0)) := by rw [← hW1, ← s0]; exact heap_alloc_new W0 _
  have y0 : W1.heap[w.heap.size]? = some (.cells #[.slice none 0 0] 31 (0, 0)) := (b1.block _ (by omega)).trans x0
  have bb : Below w.heap.size w W1 := b0.trans (b1.mono (by omega))
  have HR : Hid (Calls Tryz.prog 33 #[.string T, .bool ere] W1 fun e w1 => ∃ mT m, e = .returned (.agg (Q.cells ⟨T, ere, 0, 0, 0, .map (some mT), .slice none 0 0, .slice none 0 0, .map (some m), .slice none 0 0⟩)) ∧ (storeCells ⟨w1.heap.size, 0, none⟩ (Q.cells ⟨T, ere, 0, 0, 0, .map (some mT), .slice none 0 0, .slice none 0 0, .map (some m), .slice none 0 0⟩).toList).run Tryz.prog (w1.alloc (.cells #[.string ⟨#[]⟩, .bool false, .int .i64 0, .int .i64 0, .int .i64 0, .map none, .slice none 0 0, .slice none 0 0, .map none, .slice none 0 0] 74)) = .ok () ((w1.alloc (.cells #[.string ⟨#[]⟩, .bool false, .int .i64 0, .int .i64 0, .int .i64 0, .map none, .slice none 0 0, .slice none 0 0, .map none, .slice none 0 0] 74)).setRow w1.heap.size (Q.cells ⟨T, ere, 0, 0, 0, .map (some mT), .slice none 0 0, .slice none 0 0, .map (some m), .slice none 0 0⟩)) ∧ ∃ W2, Hid ((w1.alloc (.cells #[.string ⟨#[]⟩, .bool false, .int .i64 0, .int .i64 0, .int .i64 0, .map none, .slice none 0 0, .slice none 0 0, .map none, .slice none 0 0] 74)).setRow w1.heap.size (Q.cells ⟨T, ere, 0, 0, 0, .map (some mT), .slice none 0 0, .slice none 0 0, .map (some m), .slice none 0 0⟩) = W2) ∧ Hid (Calls Tryz.prog 34 #[.pointer (some ⟨w1.heap.size, 0, none⟩)] W2 fun e w3 => ∃ lo lc, e = .returned (.slice lo cs.length lc) ∧ (w3.cell? ⟨w.heap.size, 0, none⟩ = some (.slice none 0 0) ∧ w3.frozen? ⟨w.heap.size, 0, none⟩ = false) ∧ (w3.cell? ⟨w.heap.size + 1, 0, none⟩ = some (.int .i64 0) ∧ w3.cell? ⟨w.heap.size + 1, 1, none⟩ = some (.int .i64 0) ∧ w3.frozen? ⟨w.heap.size + 1, 0, none⟩ = false ∧ w3.frozen? ⟨w.heap.size + 1, 1, none⟩ = false) ∧ ∃ WF, Hid (((w3.setCell ⟨w.heap.size, 0, none⟩ (.slice lo cs.length lc)).setCell ⟨w.heap.size + 1, 0, none⟩ (.int .i64 0)).setCell ⟨w.heap.size + 1, 1, none⟩ (.int .i64 0) = WF) ∧ Hid (∀ o, ((WF.alloc o).cell? ⟨w.heap.size, 0, none⟩ = some (.slice lo cs.length lc) ∧ (WF.alloc o).cell? ⟨w.heap.size + 1, 0, none⟩ = some (.int .i64 0) ∧ (WF.alloc o).cell? ⟨w.heap.size + 1, 1, none⟩ = some (.int .i64 0)) ∧ RsE w cs (.returned (.tuple #[.slice lo cs.length lc, .agg #[.int .i64 0, .int .i64 0]])) (WF.alloc o)))) := by
    refine (readerOf_any W1 T ere).mono ?_
    rintro e w1 ⟨mT, m, rfl, q1, q2, q3, q4, q5⟩
    have z1 := q5.size
    have xa : (w1.alloc (.cells #[.string ⟨#[]⟩, .bool false, .int .i64 0, .int .i64 0, .int .i64 0, .map none, .slice none 0 0, .slice none 0 0, .map none, .slice none 0 0] 74)).heap[w1.heap.size]? = some (.cells #[.string ⟨#[]⟩, .bool false, .int .i64 0, .int .i64 0, .int .i64 0, .map none, .slice none 0 0, .slice none 0 0, .map none, .slice none 0 0] 74 (0, 0)) := heap_alloc_new w1 _
    have ba : Below w1.heap.size w1 (w1.alloc (.cells #[.string ⟨#[]⟩, .bool false, .int .i64 0, .int .i64 0, .int .i64 0, .map none, .slice none 0 0, .slice none 0 0, .map none, .slice none 0 0] 74)) := more (Below.refl _ _) _
    have sa : (w1.alloc (.cells #[.string ⟨#[]⟩, .bool false, .int .i64 0, .int .i64 0, .int .i64 0, .map none, .slice none 0 0, .slice none 0 0, .map none, .slice none 0 0] 74)).heap.size = w1.heap.size + 1 := World.size_alloc ..
    refine ⟨mT, m, rfl, run_storeCells_row (P := Tryz.prog) _ _ 74 _ _ xa rfl (by simp [Q.cells, Value.oneCell']), _, rfl, ?_⟩
    have o3 : ∀ k, k ≠ w1.heap.size → ((w1.alloc (.cells #[.string ⟨#[]⟩, .bool false, .int .i64 0, .int .i64 0, .int .i64 0, .map none, .slice none 0 0, .slice none 0 0, .map none, .slice none 0 0] 74)).setRow w1.heap.size (Q.cells ⟨T, ere, 0, 0, 0, .map (some mT), .slice none 0 0, .slice none 0 0, .map (some m), .slice none 0 0⟩)).heap[k]? = (w1.alloc (.cells #[.string ⟨#[]⟩, .bool false, .int .i64 0, .int .i64 0, .int .i64 0, .map none, .slice none 0 0, .slice none 0 0, .map none, .slice none 0 0] 74)).heap[k]? := fun k hk => setRow_other _ _ _ _ hk
    have s3 : ((w1.alloc (.cells #[.string ⟨#[]⟩, .bool false, .int .i64 0, .int .i64 0, .int .i64 0, .map none, .slice none 0 0, .slice none 0 0, .map none, .slice none 0 0] 74)).setRow w1.heap.size (Q.cells ⟨T, ere, 0, 0, 0, .map (some mT), .slice none 0 0, .slice none 0 0, .map (some m), .slice none 0 0⟩)).heap.size = w1.heap.size + 1 := by simp [World.setRow]
    have b3 : Below w1.heap.size w1 ((w1.alloc (.cells #[.string ⟨#[]⟩, .bool false, .int .i64 0, .int .i64 0, .int .i64 0, .map none, .slice none 0 0, .slice none 0 0, .map none, .slice none 0 0] 74)).setRow w1.heap.size (Q.cells ⟨T, ere, 0, 0, 0, .map (some mT), .slice none 0 0, .slice none 0 0, .map (some m), .slice none 0 0⟩)) := ⟨ba.os, ba.tape, ba.output, by omega, fun k hk => (o3 k (by omega)).trans (ba.block k hk)⟩
    have r3 : RB ((w1.alloc (.cells #[.string ⟨#[]⟩, .bool false, .int .i64 0, .int .i64 0, .int .i64 0, .map none, .slice none 0 0, .slice none 0 0, .map none, .slice none 0 0] 74)).setRow w1.heap.size (Q.cells ⟨T, ere, 0, 0, 0, .map (some mT), .slice none 0 0, .slice none 0 0, .map (some m), .slice none 0 0⟩)) w1.heap.size ⟨T, ere, 0, 0, 0, .map (some mT), .slice none 0 0, .slice none 0 0, .map (some m), .slice none 0 0⟩ := setRow_heap _ _ _ _ _ _ xa
    have P0 : PSt W1.heap.size W1 ((w1.alloc (.cells #[.string ⟨#[]⟩, .bool false, .int .i64 0, .int .i64 0, .int .i64 0, .map none, .slice none 0 0, .slice none 0 0, .map none, .slice none 0 0] 74)).setRow w1.heap.size (Q.cells ⟨T, ere, 0, 0, 0, .map (some mT), .slice none 0 0, .slice none 0 0, .map (some m), .slice none 0 0⟩)) w1.heap.size T ere 0 mT m [] 0 0 (.slice none 0 0) :=
      ⟨r3, ⟨by simp, .inl ⟨rfl, rfl⟩⟩, q2.keep (b3.block _ q2.lt), q3.keep (b3.block _ q3.lt), by omega, q4, q5.trans (b3.mono (by omega)), by omega, by omega⟩
    refine (script_any W1.heap.size W1 _ w1.heap.size T ere 0 mT m [] cs 0 0 _ P0 (by omega) hs (by simpa using hn)).mono ?_
    rintro e w3 ⟨v, rfl, o, bl⟩
    rw [List.nil_append] at o
    obtain ⟨lo, lc, ev⟩ : ∃ lo lc, v = .slice lo cs.length lc := by
      obtain ⟨h1, ⟨e, hx⟩ | ⟨g, cap, cur, e, _⟩⟩ := o
      · exact ⟨none, 0, by rw [e, hx]⟩
      · exact ⟨_, _, e⟩
    subst ev
    obtain ⟨v, hv0⟩ : ∃ v, v = Value.slice lo cs.length lc := ⟨_, rfl⟩
    refine ⟨lo, lc, rfl, ?_⟩
    rw [← hv0] at o ⊢
    have u0 : w3.heap[w.heap.size]? = some (.cells #[.slice none 0 0] 31 (0, 0)) := (bl.block _ (by omega)).trans y0
    have u1 : w3.heap[w.heap.size + 1]? = some (.cells #[.int .i64 0, .int .i64 0] 42 (0, 0)) := (bl.block _ (by omega)).trans x1
    refine ⟨⟨cell_of u0 rfl, frozen_of u0 0⟩, ⟨cell_of u1 rfl, cell_of u1 rfl, frozen_of u1 0, frozen_of u1 1⟩, _, rfl, ?_⟩
    intro oo
    have v0 : (w3.setCell ⟨w.heap.size, 0, none⟩ v).heap[w.heap.size]? = some (.cells #[v] 31 (0, 0)) := by
      have := heap_setCell_same w3 w.heap.size 0 _ 31 v u0
      simpa using this
    have v1 : (w3.setCell ⟨w.heap.size, 0, none⟩ v).heap[w.heap.size + 1]? = some (.cells #[.int .i64 0, .int .i64 0] 42 (0, 0)) := (Below.heap_setCell _ _ _ _ (by show w.heap.size + 1 ≠ w.heap.size; omega)).trans u1
    have v2 : ((w3.setCell ⟨w.heap.size, 0, none⟩ v).setCell ⟨w.heap.size + 1, 0, none⟩ (.int .i64 0)).heap[w.heap.size + 1]? = some (.cells #[.int .i64 0, .int .i64 0] 42 (0, 0)) := by
      have := heap_setCell_same _ (w.heap.size + 1) 0 _ 42 (.int .i64 0) v1
      simpa using this
    have v3 : (((w3.setCell ⟨w.heap.size, 0, none⟩ v).setCell ⟨w.heap.size + 1, 0, none⟩ (.int .i64 0)).setCell ⟨w.heap.size + 1, 1, none⟩ (.int .i64 0)).heap[w.heap.size + 1]? = some (.cells #[.int .i64 0, .int .i64 0] 42 (0, 0)) := by
      have := heap_setCell_same _ (w.heap.size + 1) 1 _ 42 (.int .i64 0) v2
      simpa using this
    have v4 : (((w3.setCell ⟨w.heap.size, 0, none⟩ v).setCell ⟨w.heap.size + 1, 0, none⟩ (.int .i64 0)).setCell ⟨w.heap.size + 1, 1, none⟩ (.int .i64 0)).heap[w.heap.size]? = some (.cells #[v] 31 (0, 0)) := by
      rw [Below.heap_setCell _ _ _ _ (by show w.heap.size ≠ w.heap.size + 1; omega), Below.heap_setCell _ _ _ _ (by show w.heap.size ≠ w.heap.size + 1; omega)]
      exact v0
    have oth : ∀ k, k ≠ w.heap.size → k ≠ w.heap.size + 1 → (((w3.setCell ⟨w.heap.size, 0, none⟩ v).setCell ⟨w.heap.size + 1, 0, none⟩ (.int .i64 0)).setCell ⟨w.heap.size + 1, 1, none⟩ (.int .i64 0)).heap[k]? = w3.heap[k]? := fun k h1 h2 => by
      rw [Below.heap_setCell _ _ _ _ h2, Below.heap_setCell _ _ _ _ h2, Below.heap_setCell _ _ _ _ h1]
    have bz := (((Below.refl w.heap.size w3).setCell (p := ⟨w.heap.size, 0, none⟩) (Nat.le_refl _) v).setCell (p := ⟨w.heap.size + 1, 0, none⟩) (by show w.heap.size ≤ w.heap.size + 1; omega) (.int .i64 0)).setCell (p := ⟨w.heap.size + 1, 1, none⟩) (by show w.heap.size ≤ w.heap.size + 1; omega) (.int .i64 0)
    obtain ⟨WF, hWF⟩ : ∃ WF, ((w3.setCell ⟨w.heap.size, 0, none⟩ v).setCell ⟨w.heap.size + 1, 0, none⟩ (.int .i64 0)).setCell ⟨w.heap.size + 1, 1, none⟩ (.int .i64 0) = WF := ⟨_, rfl⟩
    rw [hWF] at v3 v4 oth bz ⊢
    have bo : Below WF.heap.size WF (WF.alloc oo) := more (Below.refl _ _) _
    refine ⟨⟨cell_at bo (cell_of v4 rfl) (Nat.le_refl _), cell_at bo (cell_of v3 rfl) (Nat.le_refl _), cell_at bo (cell_of v3 rfl) (Nat.le_refl _)⟩, v, rfl, ?_, ?_⟩
    · have ok : WF.ownsRow w.heap.size 60 26 v cs.length (cs.flatMap fun c => c.cells.toList) := by
        refine ⟨o.1, ?_⟩
        rcases o.2 with hl | ⟨g, cap, cur, hv, hbg, hg, r⟩
        · exact .inl hl
        · exact .inr ⟨g, cap, cur, hv, by omega, (oth g (by omega) (by omega)).trans hg, r⟩
      exact ok.alloc oo
    · exact ((bb.trans (bl.mono (by omega))).trans bz).trans (bo.mono (by have := bz.size; have := bl.size; omega))
  clear b0 b1 x0 x1 y0 bb s1 hs
  have HW1 : Hid (W0.alloc (.cells #[.int .i64 0, .int .i64 0] 42) = W1) := hW1
  go_enter_defers Tryz.func18, Tryz.ntmps18
  go_wp2_with fail
  (try rw [hW1])
  refine HR.out.mono ?_
  rintro e w1 ⟨mT, m, rfl, hst, W2, hW2, HS⟩
  clear HR hW0 hW1 HW1
  have hW2' := hW2.out
  go_wp2_with fail
  (try rw [hW2'])
  refine HS.out.mono ?_
  rintro e w3 ⟨lo, lc, rfl, ⟨c0, f0⟩, ⟨d0, d1, g0, g1⟩, WF, hWF, HX⟩
  clear HS hst hW2 hW2'
  go_wp2
  rw [hWF.out]
  refine leaves_cons (f := 32) (args := #[.pointer (some ⟨w.heap.size, 0, none⟩), .pointer (some ⟨w.heap.size + 1, 0, none⟩)]) (by simp) (by simp [go_sem]) ?_
  refine (idle32 ⟨w.heap.size, 0, none⟩ ⟨w.heap.size + 1, 0, none⟩ _).mono ?_
  rintro e u' w'' ⟨rfl, rfl, o, hw9⟩
  subst hw9
  obtain ⟨⟨t0, t1, t2⟩, HY⟩ := HX.out o
  simp [Leaves, settle, results, Tryz.results18, go_sem, t0, t1, t2]
  exact HY
end Go.Proofs.YtdhachmelgdknaaGreatDoor.rdr
