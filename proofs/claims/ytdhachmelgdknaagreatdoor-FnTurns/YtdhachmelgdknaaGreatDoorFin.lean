/- The end of a script; a reader at its beginning. -/
import Derived.Test.YtdhachmelgdknaaGreatDoorCmd
namespace Go.Proofs.YtdhachmelgdknaaGreatDoor.rdr
open Go.ChangeShapes Go.WideShapes Go.ChangeAt Go.RowKit
open Go.Proofs.YtdhachmelgdknaaGreatDoor.bas Go.Proofs.YtdhachmelgdknaaGreatDoor.tak
set_option linter.unusedVariables false
theorem k9 : Maps.Keyed Tryz.prog 9 := Maps.string_keyed Tryz.underlying9
/-- A table of labels. -/
def LB (w : World) (m : Nat) : Prop := ∃ n D, n ≤ 100 ∧ w.ownsMap Tryz.prog 9 R m n D
theorem LB.keep {w w' : World} {m : Nat} (h : LB w m) (hk : w'.heap[m]? = w.heap[m]?) : LB w' m := by
  obtain ⟨n, D, hn, es, clock, hb, r⟩ := h
  exact ⟨n, D, hn, es, clock, hk.trans hb, r⟩
theorem LB.lt {w : World} {m : Nat} (h : LB w m) : m < w.heap.size := by
  obtain ⟨n, D, hn, ho⟩ := h
  exact ho.lt
theorem lb_ne {w : World} {m d : Nat} {q : Q} (h : LB w m) (hr : RB w d q) : m ≠ d := by
  rintro rfl
  obtain ⟨n, D, hn, es, clock, hb, _⟩ := h
  have := hb.symm.trans hr
  cases this
set_option maxHeartbeats 1600000 in
theorem finish_any {w : World} {d : Nat} {T : ByteArray} {ere : Bool} {p : Nat} {bg nm : Int} {tk : Value} {lo : Option Addr} {n lc m : Nat} (h : RB w d ⟨T, ere, p, bg, nm, tk, .slice lo n lc, .slice none 0 0, .map (some m), .slice none 0 0⟩) (hl : LB w m) :
    Calls Tryz.prog 51 #[.pointer (some ⟨d, 0, none⟩)] w fun e w' => e = .returned (.tuple #[]) ∧ RB w' d ⟨T, ere, p, bg, nm, tk, .slice lo n lc, .slice none 0 0, .map (some m), .slice none 0 0⟩ ∧ w.grownBy w' (some m) := by
  have hne := lb_ne hl h
  obtain ⟨nn, DD, hnn, ho⟩ := hl
  have ho2 : w.drew.ownsMap Tryz.prog 9 R m nn DD := ho
  obtain ⟨w1, hr, o1, g1⟩ := ho2.update (t := 71) (e := 3) (key := .string ⟨#[]⟩) (val := .int .i64 (n : Nat)) (kl := .string []) (d := .lit (.bool false)) (ps := []) k9 Tryz.underlying71 (by unfold maxLen; omega) (by kernel_rfl) rfl
  have rb1 : RB w1 d ⟨T, ere, p, bg, nm, tk, .slice lo n lc, .slice none 0 0, .map (some m), .slice none 0 0⟩ := h.keep (g1.block d h.lt (by simpa using Ne.symm hne))
  have HF : Hid (RB w1 d ⟨T, ere, p, bg, nm, tk, .slice lo n lc, .slice none 0 0, .map (some m), .slice none 0 0⟩ ∧ w.grownBy w1 (some m)) := ⟨rb1, g1.os, g1.tape, g1.output, g1.size, g1.block⟩
  have c7 : w.cell? ⟨d, 7, none⟩ = some (.slice none 0 0) := cell_of h rfl
  have c8 : w.cell? ⟨d, 8, none⟩ = some (.map (some m)) := cell_of h rfl
  have c6 : w.cell? ⟨d, 6, none⟩ = some (.slice lo n lc) := cell_of h rfl
  have c9 : w1.cell? ⟨d, 9, none⟩ = some (.slice none 0 0) := cell_of rb1 rfl
  clear h ho ho2 o1 g1 rb1
  go_enter Tryz.func51, Tryz.ntmps51
  go_wp2
  go_region
  go_wp2
  go_loopw [33] (fun v wr => v = .int .i64 0 ∧ wr = w1) (fun v _ => 0)
  case atStart => exact ⟨rfl, rfl⟩
  case round =>
    obtain ⟨rfl, rfl⟩ := hrel
    go_wp2
    go_end0
    exact ⟨rfl, HF.out⟩
theorem sets10 {w : World} {b t : Nat} (h : w.heap[b]? = some (.cells #[.string ⟨#[]⟩, .bool false, .int .i64 0, .int .i64 0, .int .i64 0, .map none, .slice none 0 0, .slice none 0 0, .map none, .slice none 0 0] t (0, 0))) (T : ByteArray) (ere : Bool) (tk lb : Value) : (((((((((((w.setCell ⟨b, 0, none⟩ (.string T)).setCell ⟨b, 1, none⟩ (.bool ere)).setCell ⟨b, 2, none⟩ (.int .i64 0)).setCell ⟨b, 3, none⟩ (.int .i64 0)).setCell ⟨b, 4, none⟩ (.int .i64 0)).setCell ⟨b, 5, none⟩ (tk)).setCell ⟨b, 6, none⟩ (.slice none 0 0)).setCell ⟨b, 7, none⟩ (.slice none 0 0)).setCell ⟨b, 8, none⟩ (lb)).setCell ⟨b, 9, none⟩ (.slice none 0 0))).heap[b]? = some (.cells #[.string T, .bool ere, .int .i64 0, .int .i64 0, .int .i64 0, tk, .slice none 0 0, .slice none 0 0, lb, .slice none 0 0] t (0, 0)) ∧ (∀ k, k ≠ b → (((((((((((w.setCell ⟨b, 0, none⟩ (.string T)).setCell ⟨b, 1, none⟩ (.bool ere)).setCell ⟨b, 2, none⟩ (.int .i64 0)).setCell ⟨b, 3, none⟩ (.int .i64 0)).setCell ⟨b, 4, none⟩ (.int .i64 0)).setCell ⟨b, 5, none⟩ (tk)).setCell ⟨b, 6, none⟩ (.slice none 0 0)).setCell ⟨b, 7, none⟩ (.slice none 0 0)).setCell ⟨b, 8, none⟩ (lb)).setCell ⟨b, 9, none⟩ (.slice none 0 0))).heap[k]? = w.heap[k]?) ∧ Below b w (((((((((((w.setCell ⟨b, 0, none⟩ (.string T)).setCell ⟨b, 1, none⟩ (.bool ere)).setCell ⟨b, 2, none⟩ (.int .i64 0)).setCell ⟨b, 3, none⟩ (.int .i64 0)).setCell ⟨b, 4, none⟩ (.int .i64 0)).setCell ⟨b, 5, none⟩ (tk)).setCell ⟨b, 6, none⟩ (.slice none 0 0)).setCell ⟨b, 7, none⟩ (.slice none 0 0)).setCell ⟨b, 8, none⟩ (lb)).setCell ⟨b, 9, none⟩ (.slice none 0 0))) := by
  have e0 : ((w.setCell ⟨b, 0, none⟩ (.string T))).heap[b]? = some (.cells #[.string T, .bool false, .int .i64 0, .int .i64 0, .int .i64 0, .map none, .slice none 0 0, .slice none 0 0, .map none, .slice none 0 0] t (0, 0)) := by
    have := heap_setCell_same _ b 0 _ t (.string T) h
    simpa using this
  have e1 : (((w.setCell ⟨b, 0, none⟩ (.string T)).setCell ⟨b, 1, none⟩ (.bool ere))).heap[b]? = some (.cells #[.string T, .bool ere, .int .i64 0, .int .i64 0, .int .i64 0, .map none, .slice none 0 0, .slice none 0 0, .map none, .slice none 0 0] t (0, 0)) := by
    have := heap_setCell_same _ b 1 _ t (.bool ere) e0
    simpa using this
  have e2 : ((((w.setCell ⟨b, 0, none⟩ (.string T)).setCell ⟨b, 1, none⟩ (.bool ere)).setCell ⟨b, 2, none⟩ (.int .i64 0))).heap[b]? = some (.cells #[.string T, .bool ere, .int .i64 0, .int .i64 0, .int .i64 0, .map none, .slice none 0 0, .slice none 0 0, .map none, .slice none 0 0] t (0, 0)) := by
    have := heap_setCell_same _ b 2 _ t (.int .i64 0) e1
    simpa using this
  have e3 : (((((w.setCell ⟨b, 0, none⟩ (.string T)).setCell ⟨b, 1, none⟩ (.bool ere)).setCell ⟨b, 2, none⟩ (.int .i64 0)).setCell ⟨b, 3, none⟩ (.int .i64 0))).heap[b]? = some (.cells #[.string T, .bool ere, .int .i64 0, .int .i64 0, .int .i64 0, .map none, .slice none 0 0, .slice none 0 0, .map none, .slice none 0 0] t (0, 0)) := by
    have := heap_setCell_same _ b 3 _ t (.int .i64 0) e2
    simpa using this
  have e4 : ((((((w.setCell ⟨b, 0, none⟩ (.string T)).setCell ⟨b, 1, none⟩ (.bool ere)).setCell ⟨b, 2, none⟩ (.int .i64 0)).setCell ⟨b, 3, none⟩ (.int .i64 0)).setCell ⟨b, 4, none⟩ (.int .i64 0))).heap[b]? = some (.cells #[.string T, .bool ere, .int .i64 0, .int .i64 0, .int .i64 0, .map none, .slice none 0 0, .slice none 0 0, .map none, .slice none 0 0] t (0, 0)) := by
    have := heap_setCell_same _ b 4 _ t (.int .i64 0) e3
    simpa using this
  have e5 : (((((((w.setCell ⟨b, 0, none⟩ (.string T)).setCell ⟨b, 1, none⟩ (.bool ere)).setCell ⟨b, 2, none⟩ (.int .i64 0)).setCell ⟨b, 3, none⟩ (.int .i64 0)).setCell ⟨b, 4, none⟩ (.int .i64 0)).setCell ⟨b, 5, none⟩ (tk))).heap[b]? = some (.cells #[.string T, .bool ere, .int .i64 0, .int .i64 0, .int .i64 0, tk, .slice none 0 0, .slice none 0 0, .map none, .slice none 0 0] t (0, 0)) := by
    have := heap_setCell_same _ b 5 _ t (tk) e4
    simpa using this
  have e6 : ((((((((w.setCell ⟨b, 0, none⟩ (.string T)).setCell ⟨b, 1, none⟩ (.bool ere)).setCell ⟨b, 2, none⟩ (.int .i64 0)).setCell ⟨b, 3, none⟩ (.int .i64 0)).setCell ⟨b, 4, none⟩ (.int .i64 0)).setCell ⟨b, 5, none⟩ (tk)).setCell ⟨b, 6, none⟩ (.slice none 0 0))).heap[b]? = some (.cells #[.string T, .bool ere, .int .i64 0, .int .i64 0, .int .i64 0, tk, .slice none 0 0, .slice none 0 0, .map none, .slice none 0 0] t (0, 0)) := by
    have := heap_setCell_same _ b 6 _ t (.slice none 0 0) e5
    simpa using this
  have e7 : (((((((((w.setCell ⟨b, 0, none⟩ (.string T)).setCell ⟨b, 1, none⟩ (.bool ere)).setCell ⟨b, 2, none⟩ (.int .i64 0)).setCell ⟨b, 3, none⟩ (.int .i64 0)).setCell ⟨b, 4, none⟩ (.int .i64 0)).setCell ⟨b, 5, none⟩ (tk)).setCell ⟨b, 6, none⟩ (.slice none 0 0)).setCell ⟨b, 7, none⟩ (.slice none 0 0))).heap[b]? = some (.cells #[.string T, .bool ere, .int .i64 0, .int .i64 0, .int .i64 0, tk, .slice none 0 0, .slice none 0 0, .map none, .slice none 0 0] t (0, 0)) := by
    have := heap_setCell_same _ b 7 _ t (.slice none 0 0) e6
    simpa using this
  have e8 : ((((((((((w.setCell ⟨b, 0, none⟩ (.string T)).setCell ⟨b, 1, none⟩ (.bool ere)).setCell ⟨b, 2, none⟩ (.int .i64 0)).setCell ⟨b, 3, none⟩ (.int .i64 0)).setCell ⟨b, 4, none⟩ (.int .i64 0)).setCell ⟨b, 5, none⟩ (tk)).setCell ⟨b, 6, none⟩ (.slice none 0 0)).setCell ⟨b, 7, none⟩ (.slice none 0 0)).setCell ⟨b, 8, none⟩ (lb))).heap[b]? = some (.cells #[.string T, .bool ere, .int .i64 0, .int .i64 0, .int .i64 0, tk, .slice none 0 0, .slice none 0 0, lb, .slice none 0 0] t (0, 0)) := by
    have := heap_setCell_same _ b 8 _ t (lb) e7
    simpa using this
  have e9 : (((((((((((w.setCell ⟨b, 0, none⟩ (.string T)).setCell ⟨b, 1, none⟩ (.bool ere)).setCell ⟨b, 2, none⟩ (.int .i64 0)).setCell ⟨b, 3, none⟩ (.int .i64 0)).setCell ⟨b, 4, none⟩ (.int .i64 0)).setCell ⟨b, 5, none⟩ (tk)).setCell ⟨b, 6, none⟩ (.slice none 0 0)).setCell ⟨b, 7, none⟩ (.slice none 0 0)).setCell ⟨b, 8, none⟩ (lb)).setCell ⟨b, 9, none⟩ (.slice none 0 0))).heap[b]? = some (.cells #[.string T, .bool ere, .int .i64 0, .int .i64 0, .int .i64 0, tk, .slice none 0 0, .slice none 0 0, lb, .slice none 0 0] t (0, 0)) := by
    have := heap_setCell_same _ b 9 _ t (.slice none 0 0) e8
    simpa using this
  have B0 := (Below.refl b w).setCell (p := ⟨b, 0, none⟩) (Nat.le_refl _) (.string T)
  have B1 := B0.setCell (p := ⟨b, 1, none⟩) (Nat.le_refl _) (.bool ere)
  have B2 := B1.setCell (p := ⟨b, 2, none⟩) (Nat.le_refl _) (.int .i64 0)
  have B3 := B2.setCell (p := ⟨b, 3, none⟩) (Nat.le_refl _) (.int .i64 0)
  have B4 := B3.setCell (p := ⟨b, 4, none⟩) (Nat.le_refl _) (.int .i64 0)
  have B5 := B4.setCell (p := ⟨b, 5, none⟩) (Nat.le_refl _) (tk)
  have B6 := B5.setCell (p := ⟨b, 6, none⟩) (Nat.le_refl _) (.slice none 0 0)
  have B7 := B6.setCell (p := ⟨b, 7, none⟩) (Nat.le_refl _) (.slice none 0 0)
  have B8 := B7.setCell (p := ⟨b, 8, none⟩) (Nat.le_refl _) (lb)
  have B9 := B8.setCell (p := ⟨b, 9, none⟩) (Nat.le_refl _) (.slice none 0 0)
  refine ⟨e9, fun k hk => ?_, B9⟩
  rw [Below.heap_setCell _ _ _ _ hk, Below.heap_setCell _ _ _ _ hk, Below.heap_setCell _ _ _ _ hk, Below.heap_setCell _ _ _ _ hk, Below.heap_setCell _ _ _ _ hk, Below.heap_setCell _ _ _ _ hk, Below.heap_setCell _ _ _ _ hk, Below.heap_setCell _ _ _ _ hk, Below.heap_setCell _ _ _ _ hk, Below.heap_setCell _ _ _ _ hk]
set_option maxHeartbeats 1600000 in
theorem readerOf_any (w : World) (T : ByteArray) (ere : Bool) :
    Calls Tryz.prog 33 #[.string T, .bool ere] w fun e w' => ∃ mT m, e = .returned (.agg (Q.cells ⟨T, ere, 0, 0, 0, .map (some mT), .slice none 0 0, .slice none 0 0, .map (some m), .slice none 0 0⟩)) ∧ w.heap.size ≤ mT ∧ TKo w' mT ∧ LB w' m ∧ w.heap.size ≤ m ∧ Below w.heap.size w w' := by
  obtain ⟨W0, hW0⟩ : ∃ W0, w.alloc (.cells #[.string ⟨#[]⟩, .bool false, .int .i64 0, .int .i64 0, .int .i64 0, .map none, .slice none 0 0, .slice none 0 0, .map none, .slice none 0 0] 74) = W0 := ⟨_, rfl⟩
  have b0 : Below w.heap.size w W0 := by rw [← hW0]; exact more (Below.refl _ _) _
  have s0 : W0.heap.size = w.heap.size + 1 := by rw [← hW0]; exact World.size_alloc ..
  have x0 : W0.heap[w.heap.size]? = some (.cells #[.string ⟨#[]⟩, .bool false, .int .i64 0, .int .i64 0, .int .i64 0, .map none, .slice none 0 0, .slice none 0 0, .map none, .slice none 0 0] 74 (0, 0)) := by rw [← hW0]; exact heap_alloc_new w _
  have HT := hide (takers_any W0)
  have HK : Hid (∀ w1, TK W0 w1 28 12 → (Instr.makeMap 71 none).run Tryz.prog w1 = .ok (.map (some w1.heap.size)) (w1.alloc (.map #[] 0)) ∧ ((w1.alloc (.map #[] 0)).cell? ⟨w.heap.size, 0, none⟩ = some (.string ⟨#[]⟩) ∧ (w1.alloc (.map #[] 0)).cell? ⟨w.heap.size, 1, none⟩ = some (.bool false) ∧ (w1.alloc (.map #[] 0)).cell? ⟨w.heap.size, 2, none⟩ = some (.int .i64 0) ∧ (w1.alloc (.map #[] 0)).cell? ⟨w.heap.size, 3, none⟩ = some (.int .i64 0) ∧ (w1.alloc (.map #[] 0)).cell? ⟨w.heap.size, 4, none⟩ = some (.int .i64 0) ∧ (w1.alloc (.map #[] 0)).cell? ⟨w.heap.size, 5, none⟩ = some (.map none) ∧ (w1.alloc (.map #[] 0)).cell? ⟨w.heap.size, 6, none⟩ = some (.slice none 0 0) ∧ (w1.alloc (.map #[] 0)).cell? ⟨w.heap.size, 7, none⟩ = some (.slice none 0 0) ∧ (w1.alloc (.map #[] 0)).cell? ⟨w.heap.size, 8, none⟩ = some (.map none) ∧ (w1.alloc (.map #[] 0)).cell? ⟨w.heap.size, 9, none⟩ = some (.slice none 0 0)) ∧ ((w1.alloc (.map #[] 0)).frozen? ⟨w.heap.size, 0, none⟩ = false ∧ (w1.alloc (.map #[] 0)).frozen? ⟨w.heap.size, 1, none⟩ = false ∧ (w1.alloc (.map #[] 0)).frozen? ⟨w.heap.size, 2, none⟩ = false ∧ (w1.alloc (.map #[] 0)).frozen? ⟨w.heap.size, 3, none⟩ = false ∧ (w1.alloc (.map #[] 0)).frozen? ⟨w.heap.size, 4, none⟩ = false ∧ (w1.alloc (.map #[] 0)).frozen? ⟨w.heap.size, 5, none⟩ = false ∧ (w1.alloc (.map #[] 0)).frozen? ⟨w.heap.size, 6, none⟩ = false ∧ (w1.alloc (.map #[] 0)).frozen? ⟨w.heap.size, 7, none⟩ = false ∧ (w1.alloc (.map #[] 0)).frozen? ⟨w.heap.size, 8, none⟩ = false ∧ (w1.alloc (.map #[] 0)).frozen? ⟨w.heap.size, 9, none⟩ = false) ∧ ∃ WF, Hid ((((((((((((w1.alloc (.map #[] 0)).setCell ⟨w.heap.size, 0, none⟩ (.string T)).setCell ⟨w.heap.size, 1, none⟩ (.bool ere)).setCell ⟨w.heap.size, 2, none⟩ (.int .i64 0)).setCell ⟨w.heap.size, 3, none⟩ (.int .i64 0)).setCell ⟨w.heap.size, 4, none⟩ (.int .i64 0)).setCell ⟨w.heap.size, 5, none⟩ (.map (some (w.heap.size + 1)))).setCell ⟨w.heap.size, 6, none⟩ (.slice none 0 0)).setCell ⟨w.heap.size, 7, none⟩ (.slice none 0 0)).setCell ⟨w.heap.size, 8, none⟩ (.map (some w1.heap.size))).setCell ⟨w.heap.size, 9, none⟩ (.slice none 0 0)) = WF) ∧ Hid (WF.heap[w.heap.size]? = some (.cells (Q.cells ⟨T, ere, 0, 0, 0, .map (some (w.heap.size + 1)), .slice none 0 0, .slice none 0 0, .map (some w1.heap.size), .slice none 0 0⟩) 74 (0, 0)) ∧ TKo WF (w.heap.size + 1) ∧ LB WF w1.heap.size ∧ w.heap.size ≤ w1.heap.size ∧ Below w.heap.size w WF)) := by
    intro w1 h1
    have hb := h1.bel
    have hbig := h1.big
    have b1 : Below w1.heap.size w1 (w1.alloc (.map #[] 0)) := more (Below.refl _ _) _
    have s1 : (w1.alloc (.map #[] 0)).heap.size = w1.heap.size + 1 := World.size_alloc ..
    have xx : (w1.alloc (.map #[] 0)).heap[w.heap.size]? = some (.cells #[.string ⟨#[]⟩, .bool false, .int .i64 0, .int .i64 0, .int .i64 0, .map none, .slice none 0 0, .slice none 0 0, .map none, .slice none 0 0] 74 (0, 0)) := (b1.block _ (by omega)).trans ((hb.block _ (by omega)).trans x0)
    obtain ⟨z1, z2, z3⟩ := sets10 xx T ere (.map (some (w.heap.size + 1))) (.map (some w1.heap.size))
    obtain ⟨WF, hWF⟩ : ∃ WF, (((((((((((w1.alloc (.map #[] 0)).setCell ⟨w.heap.size, 0, none⟩ (.string T)).setCell ⟨w.heap.size, 1, none⟩ (.bool ere)).setCell ⟨w.heap.size, 2, none⟩ (.int .i64 0)).setCell ⟨w.heap.size, 3, none⟩ (.int .i64 0)).setCell ⟨w.heap.size, 4, none⟩ (.int .i64 0)).setCell ⟨w.heap.size, 5, none⟩ (.map (some (w.heap.size + 1)))).setCell ⟨w.heap.size, 6, none⟩ (.slice none 0 0)).setCell ⟨w.heap.size, 7, none⟩ (.slice none 0 0)).setCell ⟨w.heap.size, 8, none⟩ (.map (some w1.heap.size))).setCell ⟨w.heap.size, 9, none⟩ (.slice none 0 0)) = WF := ⟨_, rfl⟩
    rw [hWF] at z1 z2 z3
    have sF := z3.size
    refine ⟨run_makeMap 71 w1, ⟨cell_of xx rfl, cell_of xx rfl, cell_of xx rfl, cell_of xx rfl, cell_of xx rfl, cell_of xx rfl, cell_of xx rfl, cell_of xx rfl, cell_of xx rfl, cell_of xx rfl⟩, ⟨frozen_of xx 0, frozen_of xx 1, frozen_of xx 2, frozen_of xx 3, frozen_of xx 4, frozen_of xx 5, frozen_of xx 6, frozen_of xx 7, frozen_of xx 8, frozen_of xx 9⟩, WF, hWF, z1, ?_, ?_, by omega, ?_⟩
    · have := h1.tko
      rw [s0] at this
      exact this.keep ((z2 _ (by omega)).trans (b1.block _ (by omega)))
    · exact LB.keep ⟨0, _, by omega, World.ownsMap_made w1 Tryz.prog 9 R⟩ (z2 _ (by omega))
    · have bb := b0.trans ((hb.mono (by omega)).trans (b1.mono (by omega)))
      exact bb.trans z3
  have hs1 : W0.heap.size = w.heap.size + 1 := s0
  clear b0 x0 s0
  go_enter Tryz.func33, Tryz.ntmps33
  go_wp2_with fail
  (try rw [hW0])
  refine HT.out.mono ?_
  rintro e w1 ⟨rfl, h1⟩
  obtain ⟨hmk, ⟨c0, c1, c2, c3, c4, c5, c6, c7, c8, c9⟩, ⟨f0, f1, f2, f3, f4, f5, f6, f7, f8, f9⟩, WF, hWF, HF⟩ := HK.out w1 h1
  clear HT HK h1
  go_wp2
  rw [hWF.out]
  refine bodyPost_ret (v := .agg (Q.cells ⟨T, ere, 0, 0, 0, .map (some (w.heap.size + 1)), .slice none 0 0, .slice none 0 0, .map (some w1.heap.size), .slice none 0 0⟩)) ?_ rfl ?_
  · exact results_cell_row rfl _ _ _ 74 _ (0, 0) _ rfl HF.out.1 Tryz.underlying74 rfl (by kernel_rfl)
  · exact ⟨w.heap.size + 1, w1.heap.size, rfl, by omega, HF.out.2.1, HF.out.2.2.1, HF.out.2.2.2.1, HF.out.2.2.2.2⟩
end Go.Proofs.YtdhachmelgdknaaGreatDoor.rdr
