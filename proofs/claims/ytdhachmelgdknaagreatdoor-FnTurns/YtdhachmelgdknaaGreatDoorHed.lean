/- A command's head is read. -/
import Derived.Test.YtdhachmelgdknaaGreatDoorAdr
namespace Go.Proofs.YtdhachmelgdknaaGreatDoor.rdr
open Go.ChangeShapes Go.WideShapes Go.ChangeAt Go.RowKit
open Go.Proofs.YtdhachmelgdknaaGreatDoor.bas
set_option linter.unusedVariables false
theorem sets7s {w : World} {b t : Nat} (h : w.heap[b]? = some (.cells (sedA 0 0 false ⟨#[]⟩) t (0, 0))) (ak an : Int) : ((((((((w.setCell ⟨b, 0, none⟩ (.int .i64 ak)).setCell ⟨b, 1, none⟩ (.int .i64 an)).setCell ⟨b, 2, none⟩ (.int .i64 0)).setCell ⟨b, 3, none⟩ (.int .i64 0)).setCell ⟨b, 4, none⟩ (.int .i64 0)).setCell ⟨b, 5, none⟩ (.string ⟨#[]⟩)).setCell ⟨b, 6, none⟩ (.slice none 0 0))).heap[b]? = some (.cells (sedA ak an false ⟨#[]⟩) t (0, 0)) ∧ (∀ k, k ≠ b → ((((((((w.setCell ⟨b, 0, none⟩ (.int .i64 ak)).setCell ⟨b, 1, none⟩ (.int .i64 an)).setCell ⟨b, 2, none⟩ (.int .i64 0)).setCell ⟨b, 3, none⟩ (.int .i64 0)).setCell ⟨b, 4, none⟩ (.int .i64 0)).setCell ⟨b, 5, none⟩ (.string ⟨#[]⟩)).setCell ⟨b, 6, none⟩ (.slice none 0 0))).heap[k]? = w.heap[k]?) ∧ Below b w ((((((((w.setCell ⟨b, 0, none⟩ (.int .i64 ak)).setCell ⟨b, 1, none⟩ (.int .i64 an)).setCell ⟨b, 2, none⟩ (.int .i64 0)).setCell ⟨b, 3, none⟩ (.int .i64 0)).setCell ⟨b, 4, none⟩ (.int .i64 0)).setCell ⟨b, 5, none⟩ (.string ⟨#[]⟩)).setCell ⟨b, 6, none⟩ (.slice none 0 0))) := by
  have e0 : ((w.setCell ⟨b, 0, none⟩ (.int .i64 ak))).heap[b]? = some (.cells #[.int .i64 ak, .int .i64 0, .int .i64 0, .int .i64 0, .int .i64 0, .string ⟨#[]⟩, .slice none 0 0, .int .i64 0, .int .i64 0, .int .i64 0, .int .i64 0, .int .i64 0, .string ⟨#[]⟩, .slice none 0 0, .bool false, .string ⟨#[]⟩, .string ⟨#[]⟩, .int .i64 0, .int .i64 0, .int .i64 0, .string ⟨#[]⟩, .slice none 0 0, .bool false, .bool false, .int .i64 0, .int .i64 0] t (0, 0)) := by
    have := heap_setCell_same _ b 0 _ t (.int .i64 ak) h
    simpa [sedA] using this
  have e1 : (((w.setCell ⟨b, 0, none⟩ (.int .i64 ak)).setCell ⟨b, 1, none⟩ (.int .i64 an))).heap[b]? = some (.cells #[.int .i64 ak, .int .i64 an, .int .i64 0, .int .i64 0, .int .i64 0, .string ⟨#[]⟩, .slice none 0 0, .int .i64 0, .int .i64 0, .int .i64 0, .int .i64 0, .int .i64 0, .string ⟨#[]⟩, .slice none 0 0, .bool false, .string ⟨#[]⟩, .string ⟨#[]⟩, .int .i64 0, .int .i64 0, .int .i64 0, .string ⟨#[]⟩, .slice none 0 0, .bool false, .bool false, .int .i64 0, .int .i64 0] t (0, 0)) := by
    have := heap_setCell_same _ b 1 _ t (.int .i64 an) e0
    simpa [sedA] using this
  have e2 : ((((w.setCell ⟨b, 0, none⟩ (.int .i64 ak)).setCell ⟨b, 1, none⟩ (.int .i64 an)).setCell ⟨b, 2, none⟩ (.int .i64 0))).heap[b]? = some (.cells #[.int .i64 ak, .int .i64 an, .int .i64 0, .int .i64 0, .int .i64 0, .string ⟨#[]⟩, .slice none 0 0, .int .i64 0, .int .i64 0, .int .i64 0, .int .i64 0, .int .i64 0, .string ⟨#[]⟩, .slice none 0 0, .bool false, .string ⟨#[]⟩, .string ⟨#[]⟩, .int .i64 0, .int .i64 0, .int .i64 0, .string ⟨#[]⟩, .slice none 0 0, .bool false, .bool false, .int .i64 0, .int .i64 0] t (0, 0)) := by
    have := heap_setCell_same _ b 2 _ t (.int .i64 0) e1
    simpa [sedA] using this
  have e3 : (((((w.setCell ⟨b, 0, none⟩ (.int .i64 ak)).setCell ⟨b, 1, none⟩ (.int .i64 an)).setCell ⟨b, 2, none⟩ (.int .i64 0)).setCell ⟨b, 3, none⟩ (.int .i64 0))).heap[b]? = some (.cells #[.int .i64 ak, .int .i64 an, .int .i64 0, .int .i64 0, .int .i64 0, .string ⟨#[]⟩, .slice none 0 0, .int .i64 0, .int .i64 0, .int .i64 0, .int .i64 0, .int .i64 0, .string ⟨#[]⟩, .slice none 0 0, .bool false, .string ⟨#[]⟩, .string ⟨#[]⟩, .int .i64 0, .int .i64 0, .int .i64 0, .string ⟨#[]⟩, .slice none 0 0, .bool false, .bool false, .int .i64 0, .int .i64 0] t (0, 0)) := by
    have := heap_setCell_same _ b 3 _ t (.int .i64 0) e2
    simpa [sedA] using this
  have e4 : ((((((w.setCell ⟨b, 0, none⟩ (.int .i64 ak)).setCell ⟨b, 1, none⟩ (.int .i64 an)).setCell ⟨b, 2, none⟩ (.int .i64 0)).setCell ⟨b, 3, none⟩ (.int .i64 0)).setCell ⟨b, 4, none⟩ (.int .i64 0))).heap[b]? = some (.cells #[.int .i64 ak, .int .i64 an, .int .i64 0, .int .i64 0, .int .i64 0, .string ⟨#[]⟩, .slice none 0 0, .int .i64 0, .int .i64 0, .int .i64 0, .int .i64 0, .int .i64 0, .string ⟨#[]⟩, .slice none 0 0, .bool false, .string ⟨#[]⟩, .string ⟨#[]⟩, .int .i64 0, .int .i64 0, .int .i64 0, .string ⟨#[]⟩, .slice none 0 0, .bool false, .bool false, .int .i64 0, .int .i64 0] t (0, 0)) := by
    have := heap_setCell_same _ b 4 _ t (.int .i64 0) e3
    simpa [sedA] using this
  have e5 : (((((((w.setCell ⟨b, 0, none⟩ (.int .i64 ak)).setCell ⟨b, 1, none⟩ (.int .i64 an)).setCell ⟨b, 2, none⟩ (.int .i64 0)).setCell ⟨b, 3, none⟩ (.int .i64 0)).setCell ⟨b, 4, none⟩ (.int .i64 0)).setCell ⟨b, 5, none⟩ (.string ⟨#[]⟩))).heap[b]? = some (.cells #[.int .i64 ak, .int .i64 an, .int .i64 0, .int .i64 0, .int .i64 0, .string ⟨#[]⟩, .slice none 0 0, .int .i64 0, .int .i64 0, .int .i64 0, .int .i64 0, .int .i64 0, .string ⟨#[]⟩, .slice none 0 0, .bool false, .string ⟨#[]⟩, .string ⟨#[]⟩, .int .i64 0, .int .i64 0, .int .i64 0, .string ⟨#[]⟩, .slice none 0 0, .bool false, .bool false, .int .i64 0, .int .i64 0] t (0, 0)) := by
    have := heap_setCell_same _ b 5 _ t (.string ⟨#[]⟩) e4
    simpa [sedA] using this
  have e6 : ((((((((w.setCell ⟨b, 0, none⟩ (.int .i64 ak)).setCell ⟨b, 1, none⟩ (.int .i64 an)).setCell ⟨b, 2, none⟩ (.int .i64 0)).setCell ⟨b, 3, none⟩ (.int .i64 0)).setCell ⟨b, 4, none⟩ (.int .i64 0)).setCell ⟨b, 5, none⟩ (.string ⟨#[]⟩)).setCell ⟨b, 6, none⟩ (.slice none 0 0))).heap[b]? = some (.cells #[.int .i64 ak, .int .i64 an, .int .i64 0, .int .i64 0, .int .i64 0, .string ⟨#[]⟩, .slice none 0 0, .int .i64 0, .int .i64 0, .int .i64 0, .int .i64 0, .int .i64 0, .string ⟨#[]⟩, .slice none 0 0, .bool false, .string ⟨#[]⟩, .string ⟨#[]⟩, .int .i64 0, .int .i64 0, .int .i64 0, .string ⟨#[]⟩, .slice none 0 0, .bool false, .bool false, .int .i64 0, .int .i64 0] t (0, 0)) := by
    have := heap_setCell_same _ b 6 _ t (.slice none 0 0) e5
    simpa [sedA] using this
  have B0 := (Below.refl b w).setCell (p := ⟨b, 0, none⟩) (Nat.le_refl _) (.int .i64 ak)
  have B1 := B0.setCell (p := ⟨b, 1, none⟩) (Nat.le_refl _) (.int .i64 an)
  have B2 := B1.setCell (p := ⟨b, 2, none⟩) (Nat.le_refl _) (.int .i64 0)
  have B3 := B2.setCell (p := ⟨b, 3, none⟩) (Nat.le_refl _) (.int .i64 0)
  have B4 := B3.setCell (p := ⟨b, 4, none⟩) (Nat.le_refl _) (.int .i64 0)
  have B5 := B4.setCell (p := ⟨b, 5, none⟩) (Nat.le_refl _) (.string ⟨#[]⟩)
  have B6 := B5.setCell (p := ⟨b, 6, none⟩) (Nat.le_refl _) (.slice none 0 0)
  refine ⟨e6, fun k hk => ?_, B6⟩
  rw [Below.heap_setCell _ _ _ _ hk, Below.heap_setCell _ _ _ _ hk, Below.heap_setCell _ _ _ _ hk, Below.heap_setCell _ _ _ _ hk, Below.heap_setCell _ _ _ _ hk, Below.heap_setCell _ _ _ _ hk, Below.heap_setCell _ _ _ _ hk]
theorem set14 {w : World} {b t : Nat} {ak an : Int} (h : w.heap[b]? = some (.cells (sedA ak an false ⟨#[]⟩) t (0, 0))) (nt : Bool) : (w.setCell ⟨b, 14, none⟩ (.bool nt)).heap[b]? = some (.cells (sedA ak an nt ⟨#[]⟩) t (0, 0)) := by
  have := heap_setCell_same w b 14 _ t (.bool nt) h
  simpa [sedA] using this
theorem RB.set3 {w : World} {d : Nat} {q : Q} (h : RB w d q) (k : Int) : RB (w.setCell ⟨d, 3, none⟩ (.int .i64 k)) d { q with bg := k } := by
  have := heap_setCell_same w d 3 _ 74 (.int .i64 k) h
  simpa [RB, Q.cells] using this
/-- A head being read: the reader, the command that is made, the result's block. -/
structure HD (w : World) (d : Nat) (q : Q) (ak an : Int) (nt : Bool) (W : World) : Prop where
  rb : RB W d q
  cb : W.heap[w.heap.size + 1]? = some (.cells (sedA ak an nt ⟨#[]⟩) 60 (0, 0))
  sb : W.heap[w.heap.size]? = some (.cells (sedA 0 0 false ⟨#[]⟩) 60 (0, 0))
  gr : w.grownBy W (some d)
  lt : d < w.heap.size
theorem HD.big {w : World} {d : Nat} {q : Q} {ak an : Int} {nt : Bool} {W : World} (h : HD w d q ak an nt W) : w.heap.size + 2 ≤ W.heap.size := (Array.getElem?_eq_some_iff.1 h.cb).1
theorem HD.call {w : World} {d : Nat} {q q' : Q} {ak an : Int} {nt : Bool} {W W' : World} (h : HD w d q ak an nt W) (hr : RB W' d q') (hg : W.grownBy W' (some d)) : HD w d q' ak an nt W' := by
  have := h.big
  have := h.lt
  exact ⟨hr, (hg.block _ (by omega) (by simp; omega)).trans h.cb, (hg.block _ (by omega) (by simp; omega)).trans h.sb, grown_tr h.gr hg, h.lt⟩
theorem HD.mv {w : World} {d : Nat} {q : Q} {ak an : Int} {nt : Bool} {W W' : World} {k : Nat} (h : HD w d q ak an nt W) (hm : Mv W d q k W') : HD w d { q with pl := k } ak an nt W' := h.call hm.rb hm.gr
/-- Its address is laid down. -/
theorem HD.addr {w : World} {d : Nat} {q : Q} {W : World} (h : HD w d q 0 0 false W) (ak an : Int) : (W.cell? ⟨w.heap.size + 1, 0, none⟩ = some (.int .i64 0) ∧ W.cell? ⟨w.heap.size + 1, 1, none⟩ = some (.int .i64 0) ∧ W.cell? ⟨w.heap.size + 1, 2, none⟩ = some (.int .i64 0) ∧ W.cell? ⟨w.heap.size + 1, 3, none⟩ = some (.int .i64 0) ∧ W.cell? ⟨w.heap.size + 1, 4, none⟩ = some (.int .i64 0) ∧ W.cell? ⟨w.heap.size + 1, 5, none⟩ = some (.string ⟨#[]⟩) ∧ W.cell? ⟨w.heap.size + 1, 6, none⟩ = some (.slice none 0 0)) ∧ (∀ i, W.frozen? ⟨w.heap.size + 1, i, none⟩ = false) ∧ HD w d q ak an false ((((((((W.setCell ⟨w.heap.size + 1, 0, none⟩ (.int .i64 ak)).setCell ⟨w.heap.size + 1, 1, none⟩ (.int .i64 an)).setCell ⟨w.heap.size + 1, 2, none⟩ (.int .i64 0)).setCell ⟨w.heap.size + 1, 3, none⟩ (.int .i64 0)).setCell ⟨w.heap.size + 1, 4, none⟩ (.int .i64 0)).setCell ⟨w.heap.size + 1, 5, none⟩ (.string ⟨#[]⟩)).setCell ⟨w.heap.size + 1, 6, none⟩ (.slice none 0 0))) := by
  have y := h.cb
  have hl := h.lt
  obtain ⟨z1, z2, z3⟩ := sets7s y ak an
  refine ⟨⟨cell_of y rfl, cell_of y rfl, cell_of y rfl, cell_of y rfl, cell_of y rfl, cell_of y rfl, cell_of y rfl⟩, fun i => frozen_of y i, h.rb.keep (z2 d (by omega)), z1, (z2 _ (by omega)).trans h.sb, ?_, hl⟩
  have g := h.gr
  exact ⟨z3.os.trans g.os, z3.tape.trans g.tape, z3.output.trans g.output, Nat.le_trans g.size z3.size, fun k hk hn => (z2 k (by omega)).trans (g.block k hk hn)⟩
theorem HD.mark {w : World} {d : Nat} {q : Q} {ak an : Int} {W : World} (h : HD w d q ak an false W) (nt : Bool) : W.cell? ⟨w.heap.size + 1, 14, none⟩ = some (.bool false) ∧ W.frozen? ⟨w.heap.size + 1, 14, none⟩ = false ∧ HD w d q ak an nt (W.setCell ⟨w.heap.size + 1, 14, none⟩ (.bool nt)) := by
  have y := h.cb
  have hl := h.lt
  have g := h.gr
  have o : ∀ k, k ≠ w.heap.size + 1 → (W.setCell ⟨w.heap.size + 1, 14, none⟩ (.bool nt)).heap[k]? = W.heap[k]? := fun k hk => Below.heap_setCell _ _ _ _ hk
  exact ⟨cell_of y rfl, frozen_of y 14, h.rb.keep (o d (by omega)), set14 y nt, (o _ (by omega)).trans h.sb, ⟨g.os, g.tape, g.output, by simpa using g.size, fun k hk hn => (o k (by omega)).trans (g.block k hk hn)⟩, hl⟩
theorem HD.last {w : World} {d : Nat} {q : Q} {ak an : Int} {nt : Bool} {W : World} (h : HD w d q ak an nt W) : (W.setRow w.heap.size (sedA ak an nt ⟨#[]⟩)).heap[w.heap.size]? = some (.cells (sedA ak an nt ⟨#[]⟩) 60 (0, 0)) ∧ RB (W.setRow w.heap.size (sedA ak an nt ⟨#[]⟩)) d q ∧ w.grownBy (W.setRow w.heap.size (sedA ak an nt ⟨#[]⟩)) (some d) := by
  have hl := h.lt
  have g := h.gr
  have o : ∀ k, k ≠ w.heap.size → (W.setRow w.heap.size (sedA ak an nt ⟨#[]⟩)).heap[k]? = W.heap[k]? := fun k hk => setRow_other _ _ _ _ hk
  exact ⟨setRow_heap _ _ _ _ _ _ h.sb, h.rb.keep (o d (by omega)), g.os, g.tape, g.output, by simpa [World.setRow] using g.size, fun k hk hn => (o k (by omega)).trans (g.block k hk hn)⟩
theorem size60 (ak an : Int) (nt : Bool) (nm : ByteArray) : (Tryz.prog.info? 60).map (·.size) = some (sedA ak an nt nm).size := by kernel_rfl
theorem one_sed (ak an : Int) (nt : Bool) (nm : ByteArray) : (sedA ak an nt nm).all (·.oneCell') = true := by simp [sedA, Value.oneCell']
theorem run_storeCells_row {P : Program} (w : World) (g : Nat) (t : TypeId) (old cells : Array Value) (hg : w.heap[g]? = some (.cells old t (0, 0))) (ho : old.size = cells.size) (h1 : cells.all (·.oneCell') = true) : (storeCells ⟨g, 0, none⟩ cells.toList).run P w = .ok () (w.setRow g cells) := by
  have := run_storeCells_from (P := P) g t cells.toList 0 old w hg (by simp; omega) (fun v hv => (Array.all_eq_true_iff_forall_mem.1 h1) v (by simpa using hv))
  simpa using this
/-- What comes behind an address, with no comma. -/
structure Ahead (T : ByteArray) (ak : Int) (k1 : Nat) (nt : Bool) (k4 : Nat) : Prop where
  le : k1 ≤ T.size
  comma : ak ≠ 0 → seesP T sComma (ov sB T k1) = false
  mark : seesP T sNot (ov sB T k1) = nt
  fin : k4 = ov sB T (if nt then ov sB T k1 + 1 else ov sB T k1)
set_option maxHeartbeats 3200000 in
theorem head_any {d : Nat} {q : Q} {w : World} (h : RB w d q) (hk : q.pl ≤ q.T.size) (hT : q.T.size ≤ 100000) (ak an : Int) (k1 : Nat) (nt : Bool) (k4 : Nat)
    (HA : ∀ W, RB W d { q with bg := (q.pl : Nat) } → Calls Tryz.prog 86 #[.pointer (some ⟨d, 0, none⟩)] W fun e w' => e = .returned (.agg #[.int .i64 ak, .int .i64 an, .int .i64 0, .int .i64 0, .int .i64 0, .string ⟨#[]⟩, .slice none 0 0]) ∧ RB w' d { q with bg := (q.pl : Nat), pl := k1 } ∧ W.grownBy w' (some d)) (ha : Ahead q.T ak k1 nt k4) :
    Calls Tryz.prog 49 #[.pointer (some ⟨d, 0, none⟩)] w fun e w' => e = .returned (.agg (sedA ak an nt ⟨#[]⟩)) ∧ RB w' d { q with bg := (q.pl : Nat), pl := k4 } ∧ w.grownBy w' (some d) := by
  obtain ⟨T, ere, p, bg, nm, tk, ls, op, lb, jp⟩ := q
  dsimp only at hk hT HA ha ⊢
  obtain ⟨W0, hW0⟩ : ∃ W0, w.alloc (.cells #[.int .i64 0, .int .i64 0, .int .i64 0, .int .i64 0, .int .i64 0, .string ⟨#[]⟩, .slice none 0 0, .int .i64 0, .int .i64 0, .int .i64 0, .int .i64 0, .int .i64 0, .string ⟨#[]⟩, .slice none 0 0, .bool false, .string ⟨#[]⟩, .string ⟨#[]⟩, .int .i64 0, .int .i64 0, .int .i64 0, .string ⟨#[]⟩, .slice none 0 0, .bool false, .bool false, .int .i64 0, .int .i64 0] 60) = W0 := ⟨_, rfl⟩
  obtain ⟨W1, hW1⟩ : ∃ W1, W0.alloc (.cells #[.int .i64 0, .int .i64 0, .int .i64 0, .int .i64 0, .int .i64 0, .string ⟨#[]⟩, .slice none 0 0, .int .i64 0, .int .i64 0, .int .i64 0, .int .i64 0, .int .i64 0, .string ⟨#[]⟩, .slice none 0 0, .bool false, .string ⟨#[]⟩, .string ⟨#[]⟩, .int .i64 0, .int .i64 0, .int .i64 0, .string ⟨#[]⟩, .slice none 0 0, .bool false, .bool false, .int .i64 0, .int .i64 0] 60) = W1 := ⟨_, rfl⟩
  have b0 : Below w.heap.size w W0 := by rw [← hW0]; exact more (Below.refl _ _) _
  have b1 : Below W0.heap.size W0 W1 := by rw [← hW1]; exact more (Below.refl _ _) _
  have s0 : W0.heap.size = w.heap.size + 1 := by rw [← hW0]; exact World.size_alloc ..
  have x0 : W0.heap[w.heap.size]? = some (.cells (sedA 0 0 false ⟨#[]⟩) 60 (0, 0)) := by rw [← hW0]; exact heap_alloc_new w _
  have x1 : W1.heap[w.heap.size + 1]? = some (.cells (sedA 0 0 false ⟨#[]⟩) 60 (0, 0)) := by rw [← hW1, ← s0]; exact heap_alloc_new W0 _
  have hd := h.lt
  have D1 : HD w d ⟨T, ere, p, bg, nm, tk, ls, op, lb, jp⟩ 0 0 false W1 := ⟨(h.below b0).below b1, x1, (b1.block _ (by omega)).trans x0, grown_tr (grown_of b0) (grown_of b1), hd⟩
  have c2 : W1.cell? ⟨d, 2, none⟩ = some (.int .i64 (p : Nat)) := D1.rb.c2
  have c3 : W1.cell? ⟨d, 3, none⟩ = some (.int .i64 bg) := cell_of D1.rb rfl
  have f3 := D1.rb.fz 3
  have D2 : HD w d ⟨T, ere, p, (p : Nat), nm, tk, ls, op, lb, jp⟩ 0 0 false (W1.setCell ⟨d, 3, none⟩ (.int .i64 (p : Nat))) := D1.call (D1.rb.set3 _) (grown_set (grown_refl _ _) _ _)
  obtain ⟨W2, hW2⟩ : ∃ W2, W1.setCell ⟨d, 3, none⟩ (.int .i64 (p : Nat)) = W2 := ⟨_, rfl⟩
  rw [hW2] at D2
  have HA2 : Hid (Calls Tryz.prog 86 #[.pointer (some ⟨d, 0, none⟩)] W2 fun e w3 => e = .returned (.agg #[.int .i64 ak, .int .i64 an, .int .i64 0, .int .i64 0, .int .i64 0, .string ⟨#[]⟩, .slice none 0 0]) ∧ (w3.cell? ⟨w.heap.size + 1, 0, none⟩ = some (.int .i64 0) ∧ w3.cell? ⟨w.heap.size + 1, 1, none⟩ = some (.int .i64 0) ∧ w3.cell? ⟨w.heap.size + 1, 2, none⟩ = some (.int .i64 0) ∧ w3.cell? ⟨w.heap.size + 1, 3, none⟩ = some (.int .i64 0) ∧ w3.cell? ⟨w.heap.size + 1, 4, none⟩ = some (.int .i64 0) ∧ w3.cell? ⟨w.heap.size + 1, 5, none⟩ = some (.string ⟨#[]⟩) ∧ w3.cell? ⟨w.heap.size + 1, 6, none⟩ = some (.slice none 0 0)) ∧ (w3.frozen? ⟨w.heap.size + 1, 0, none⟩ = false ∧ w3.frozen? ⟨w.heap.size + 1, 1, none⟩ = false ∧ w3.frozen? ⟨w.heap.size + 1, 2, none⟩ = false ∧ w3.frozen? ⟨w.heap.size + 1, 3, none⟩ = false ∧ w3.frozen? ⟨w.heap.size + 1, 4, none⟩ = false ∧ w3.frozen? ⟨w.heap.size + 1, 5, none⟩ = false ∧ w3.frozen? ⟨w.heap.size + 1, 6, none⟩ = false) ∧ ∃ W4, Hid ((((((((w3.setCell ⟨w.heap.size + 1, 0, none⟩ (.int .i64 ak)).setCell ⟨w.heap.size + 1, 1, none⟩ (.int .i64 an)).setCell ⟨w.heap.size + 1, 2, none⟩ (.int .i64 0)).setCell ⟨w.heap.size + 1, 3, none⟩ (.int .i64 0)).setCell ⟨w.heap.size + 1, 4, none⟩ (.int .i64 0)).setCell ⟨w.heap.size + 1, 5, none⟩ (.string ⟨#[]⟩)).setCell ⟨w.heap.size + 1, 6, none⟩ (.slice none 0 0)) = W4) ∧ Hid (HD w d ⟨T, ere, k1, (p : Nat), nm, tk, ls, op, lb, jp⟩ ak an false W4)) := by
    refine (HA W2 D2.rb).mono ?_
    rintro e w3 ⟨rfl, r3, g3⟩
    have D3 := D2.call r3 g3
    obtain ⟨hc, hf, D4⟩ := D3.addr ak an
    obtain ⟨W4, hW4⟩ : ∃ W4, (((((((w3.setCell ⟨w.heap.size + 1, 0, none⟩ (.int .i64 ak)).setCell ⟨w.heap.size + 1, 1, none⟩ (.int .i64 an)).setCell ⟨w.heap.size + 1, 2, none⟩ (.int .i64 0)).setCell ⟨w.heap.size + 1, 3, none⟩ (.int .i64 0)).setCell ⟨w.heap.size + 1, 4, none⟩ (.int .i64 0)).setCell ⟨w.heap.size + 1, 5, none⟩ (.string ⟨#[]⟩)).setCell ⟨w.heap.size + 1, 6, none⟩ (.slice none 0 0)) = W4 := ⟨_, rfl⟩
    rw [hW4] at D4
    exact ⟨rfl, hc, ⟨hf 0, hf 1, hf 2, hf 3, hf 4, hf 5, hf 6⟩, W4, hW4, D4⟩
  have HAH := hide ha
  have hle := ha.le
  clear D1 D2 HA h b0 b1 x0 x1 ha
  go_enter Tryz.func49, Tryz.ntmps49
  go_wp2_with fail
  (try rw [hW2])
  refine HA2.out.mono ?_
  rintro e w3 ⟨rfl, ⟨u0, u1, u2, u3, u4, u5, u6⟩, ⟨f0, f1, f2, f4, f5, f6, f7⟩, W4, hW4, H4⟩
  clear HA2 hW0 hW1 hW2 c2 c3 f3
  have HO := hide (mv_over sB (Mv.refl H4.out.rb) hle hT)
  go_wp2_with fail
  rw [hW4.out]
  refine HO.out.mono ?_
  rintro e w5 ⟨rfl, hm5⟩
  have H5 := hide (H4.out.mv hm5)
  clear HO hm5 H4 hW4 u0 u1 u2 u3 u4 u5 u6 f0 f1 f2 f4 f5 f6 f7
  dsimp only at H5 ⊢
  have hle5 := ov_le sB T k1 hle
  have hcm := HAH.out.comma
  have hmk := HAH.out.mark
  have hfn := HAH.out.fin
  obtain ⟨k2, ek2⟩ : ∃ k2, ov sB T k1 = k2 := ⟨_, rfl⟩
  rw [ek2] at H5 hle5 hcm hmk hfn ⊢
  clear HAH ek2
  have v0 : w5.cell? ⟨w.heap.size + 1, 0, none⟩ = some (.int .i64 ak) := cell_of H5.out.cb rfl
  have HREST : Hid (∀ W, HD w d ⟨T, ere, k2, (p : Nat), nm, tk, ls, op, lb, jp⟩ ak an false W → Calls Tryz.prog 87 #[.pointer (some ⟨d, 0, none⟩), .string sNot] W fun e w6 => e = .returned (.bool nt) ∧ (w6.cell? ⟨w.heap.size + 1, 14, none⟩ = some (.bool false) ∧ w6.frozen? ⟨w.heap.size + 1, 14, none⟩ = false) ∧ ∃ W7, Hid (w6.setCell ⟨w.heap.size + 1, 14, none⟩ (.bool nt) = W7) ∧ Hid (Calls Tryz.prog 82 #[.pointer (some ⟨d, 0, none⟩), .string sB] W7 fun e w8 => (∃ v, e = .returned v) ∧ Hid (HD w d ⟨T, ere, k4, (p : Nat), nm, tk, ls, op, lb, jp⟩ ak an nt w8))) := by
    intro W hW
    have := mv_takes sNot (Mv.refl hW.rb) hle5 hT
    refine this.mono ?_
    rintro e w6 ⟨rfl, hm6⟩
    dsimp only at hm6 ⊢
    rw [hmk] at hm6 ⊢
    have D6 := hW.mv hm6
    obtain ⟨hc, hf, D7⟩ := D6.mark nt
    refine ⟨rfl, ⟨hc, hf⟩, _, rfl, ?_⟩
    have hle6 : (if nt = true then k2 + 1 else k2) ≤ T.size := by
      cases nt with
      | false => exact hle5
      | true => exact sees_lt hmk
    refine (mv_over sB (Mv.refl D7.rb) hle6 hT).mono ?_
    rintro e w8 ⟨rfl, hm8⟩
    exact ⟨⟨_, rfl⟩, by rw [hfn]; exact D7.mv hm8⟩
  clear hfn
  by_cases h0 : ak = 0
  · subst h0
    have HT := hide (HREST.out w5 H5.out)
    clear HREST H5 hcm hmk
    go_wp2_with fail
    refine HT.out.mono ?_
    rintro e w6 ⟨rfl, ⟨g1, g2⟩, W7, hW7, H8⟩
    clear HT v0
    go_wp2_with fail
    rw [hW7.out]
    refine H8.out.mono ?_
    rintro e w8 ⟨⟨v, rfl⟩, HL⟩
    clear H8 hW7 g1 g2
    have hst := run_storeCells_row (P := Tryz.prog) w8 w.heap.size 60 _ (sedA 0 an nt ⟨#[]⟩) HL.out.sb rfl (one_sed _ _ _ _)
    go_wp2_with (refine wpList_load_row rfl _ _ rfl (w.heap.size + 1) rfl 60 _ (0, 0) _ HL.out.cb Tryz.underlying60 rfl (size60 _ _ _ _) ?_)
    obtain ⟨z1, z2, z3⟩ := HL.out.last
    refine bodyPost_ret (v := .agg (sedA 0 an nt ⟨#[]⟩)) ?_ rfl ?_
    · exact results_cell_row rfl _ _ _ 60 _ (0, 0) _ rfl z1 Tryz.underlying60 rfl (size60 _ _ _ _)
    · exact ⟨rfl, z2, z3⟩
  · have hb0 : (ak != 0) = true := by rw [bne_iff_ne]; exact h0
    have HC := mv_takes sComma (Mv.refl H5.out.rb) hle5 hT
    dsimp only at HC
    rw [hcm h0, if_neg Bool.false_ne_true] at HC
    have HC := hide HC
    go_wp2_with fail
    refine HC.out.mono ?_
    rintro e w5b ⟨rfl, hm5b⟩
    have HT := hide (HREST.out w5b (H5.out.mv hm5b))
    clear HC HREST H5 hcm hmk hm5b h0 hb0
    go_wp2_with fail
    refine HT.out.mono ?_
    rintro e w6 ⟨rfl, ⟨g1, g2⟩, W7, hW7, H8⟩
    clear HT v0
    go_wp2_with fail
    rw [hW7.out]
    refine H8.out.mono ?_
    rintro e w8 ⟨⟨v, rfl⟩, HL⟩
    clear H8 hW7 g1 g2
    have hst := run_storeCells_row (P := Tryz.prog) w8 w.heap.size 60 _ (sedA ak an nt ⟨#[]⟩) HL.out.sb rfl (one_sed _ _ _ _)
    go_wp2_with (refine wpList_load_row rfl _ _ rfl (w.heap.size + 1) rfl 60 _ (0, 0) _ HL.out.cb Tryz.underlying60 rfl (size60 _ _ _ _) ?_)
    obtain ⟨z1, z2, z3⟩ := HL.out.last
    refine bodyPost_ret (v := .agg (sedA ak an nt ⟨#[]⟩)) ?_ rfl ?_
    · exact results_cell_row rfl _ _ _ 60 _ (0, 0) _ rfl z1 Tryz.underlying60 rfl (size60 _ _ _ _)
    · exact ⟨rfl, z2, z3⟩
end Go.Proofs.YtdhachmelgdknaaGreatDoor.rdr
