/- What stands ahead of a command's name. -/
import Derived.Test.YtdhachmelgdknaaGreatDoorTak
import Derived.Laws.Rows
import Derived.Laws.Tables
namespace Go.Proofs.YtdhachmelgdknaaGreatDoor.rdr
open Go.ChangeShapes Go.WideShapes Go.ChangeAt Go.RowKit
open Go.Proofs.YtdhachmelgdknaaGreatDoor.bas
set_option linter.unusedVariables false
abbrev sD : ByteArray := ⟨#[48, 49, 50, 51, 52, 53, 54, 55, 56, 57]⟩
abbrev sLast : ByteArray := ⟨#[36]⟩
abbrev sSlash : ByteArray := ⟨#[47]⟩
abbrev sComma : ByteArray := ⟨#[44]⟩
abbrev sNot : ByteArray := ⟨#[33]⟩
/-- A command of no more than an address, a mark and a name. -/
def sedA (ak an : Int) (nt : Bool) (nm : ByteArray) : Array Value := #[.int .i64 ak, .int .i64 an, .int .i64 0, .int .i64 0, .int .i64 0, .string ⟨#[]⟩, .slice none 0 0, .int .i64 0, .int .i64 0, .int .i64 0, .int .i64 0, .int .i64 0, .string ⟨#[]⟩, .slice none 0 0, .bool nt, .string nm, .string ⟨#[]⟩, .int .i64 0, .int .i64 0, .int .i64 0, .string ⟨#[]⟩, .slice none 0 0, .bool false, .bool false, .int .i64 0, .int .i64 0]
/-- An address: its block is written. -/
theorem sets7 {w : World} {b t : Nat} (h : w.heap[b]? = some (.cells #[.int .i64 0, .int .i64 0, .int .i64 0, .int .i64 0, .int .i64 0, .string ⟨#[]⟩, .slice none 0 0] t (0, 0))) (ak an : Int) : ((((((((w.setCell ⟨b, 0, none⟩ (.int .i64 ak)).setCell ⟨b, 1, none⟩ (.int .i64 an)).setCell ⟨b, 2, none⟩ (.int .i64 0)).setCell ⟨b, 3, none⟩ (.int .i64 0)).setCell ⟨b, 4, none⟩ (.int .i64 0)).setCell ⟨b, 5, none⟩ (.string ⟨#[]⟩)).setCell ⟨b, 6, none⟩ (.slice none 0 0))).heap[b]? = some (.cells #[.int .i64 ak, .int .i64 an, .int .i64 0, .int .i64 0, .int .i64 0, .string ⟨#[]⟩, .slice none 0 0] t (0, 0)) ∧ (∀ k, k ≠ b → ((((((((w.setCell ⟨b, 0, none⟩ (.int .i64 ak)).setCell ⟨b, 1, none⟩ (.int .i64 an)).setCell ⟨b, 2, none⟩ (.int .i64 0)).setCell ⟨b, 3, none⟩ (.int .i64 0)).setCell ⟨b, 4, none⟩ (.int .i64 0)).setCell ⟨b, 5, none⟩ (.string ⟨#[]⟩)).setCell ⟨b, 6, none⟩ (.slice none 0 0))).heap[k]? = w.heap[k]?) ∧ ((((((((w.setCell ⟨b, 0, none⟩ (.int .i64 ak)).setCell ⟨b, 1, none⟩ (.int .i64 an)).setCell ⟨b, 2, none⟩ (.int .i64 0)).setCell ⟨b, 3, none⟩ (.int .i64 0)).setCell ⟨b, 4, none⟩ (.int .i64 0)).setCell ⟨b, 5, none⟩ (.string ⟨#[]⟩)).setCell ⟨b, 6, none⟩ (.slice none 0 0))).heap.size = w.heap.size ∧ (((((((((w.setCell ⟨b, 0, none⟩ (.int .i64 ak)).setCell ⟨b, 1, none⟩ (.int .i64 an)).setCell ⟨b, 2, none⟩ (.int .i64 0)).setCell ⟨b, 3, none⟩ (.int .i64 0)).setCell ⟨b, 4, none⟩ (.int .i64 0)).setCell ⟨b, 5, none⟩ (.string ⟨#[]⟩)).setCell ⟨b, 6, none⟩ (.slice none 0 0))).os = w.os ∧ ((((((((w.setCell ⟨b, 0, none⟩ (.int .i64 ak)).setCell ⟨b, 1, none⟩ (.int .i64 an)).setCell ⟨b, 2, none⟩ (.int .i64 0)).setCell ⟨b, 3, none⟩ (.int .i64 0)).setCell ⟨b, 4, none⟩ (.int .i64 0)).setCell ⟨b, 5, none⟩ (.string ⟨#[]⟩)).setCell ⟨b, 6, none⟩ (.slice none 0 0))).tape = w.tape ∧ ((((((((w.setCell ⟨b, 0, none⟩ (.int .i64 ak)).setCell ⟨b, 1, none⟩ (.int .i64 an)).setCell ⟨b, 2, none⟩ (.int .i64 0)).setCell ⟨b, 3, none⟩ (.int .i64 0)).setCell ⟨b, 4, none⟩ (.int .i64 0)).setCell ⟨b, 5, none⟩ (.string ⟨#[]⟩)).setCell ⟨b, 6, none⟩ (.slice none 0 0))).output = w.output) := by
  have e0 : ((w.setCell ⟨b, 0, none⟩ (.int .i64 ak))).heap[b]? = some (.cells #[.int .i64 ak, .int .i64 0, .int .i64 0, .int .i64 0, .int .i64 0, .string ⟨#[]⟩, .slice none 0 0] t (0, 0)) := by
    have := heap_setCell_same _ b 0 _ t (.int .i64 ak) h
    simpa using this
  have e1 : (((w.setCell ⟨b, 0, none⟩ (.int .i64 ak)).setCell ⟨b, 1, none⟩ (.int .i64 an))).heap[b]? = some (.cells #[.int .i64 ak, .int .i64 an, .int .i64 0, .int .i64 0, .int .i64 0, .string ⟨#[]⟩, .slice none 0 0] t (0, 0)) := by
    have := heap_setCell_same _ b 1 _ t (.int .i64 an) e0
    simpa using this
  have e2 : ((((w.setCell ⟨b, 0, none⟩ (.int .i64 ak)).setCell ⟨b, 1, none⟩ (.int .i64 an)).setCell ⟨b, 2, none⟩ (.int .i64 0))).heap[b]? = some (.cells #[.int .i64 ak, .int .i64 an, .int .i64 0, .int .i64 0, .int .i64 0, .string ⟨#[]⟩, .slice none 0 0] t (0, 0)) := by
    have := heap_setCell_same _ b 2 _ t (.int .i64 0) e1
    simpa using this
  have e3 : (((((w.setCell ⟨b, 0, none⟩ (.int .i64 ak)).setCell ⟨b, 1, none⟩ (.int .i64 an)).setCell ⟨b, 2, none⟩ (.int .i64 0)).setCell ⟨b, 3, none⟩ (.int .i64 0))).heap[b]? = some (.cells #[.int .i64 ak, .int .i64 an, .int .i64 0, .int .i64 0, .int .i64 0, .string ⟨#[]⟩, .slice none 0 0] t (0, 0)) := by
    have := heap_setCell_same _ b 3 _ t (.int .i64 0) e2
    simpa using this
  have e4 : ((((((w.setCell ⟨b, 0, none⟩ (.int .i64 ak)).setCell ⟨b, 1, none⟩ (.int .i64 an)).setCell ⟨b, 2, none⟩ (.int .i64 0)).setCell ⟨b, 3, none⟩ (.int .i64 0)).setCell ⟨b, 4, none⟩ (.int .i64 0))).heap[b]? = some (.cells #[.int .i64 ak, .int .i64 an, .int .i64 0, .int .i64 0, .int .i64 0, .string ⟨#[]⟩, .slice none 0 0] t (0, 0)) := by
    have := heap_setCell_same _ b 4 _ t (.int .i64 0) e3
    simpa using this
  have e5 : (((((((w.setCell ⟨b, 0, none⟩ (.int .i64 ak)).setCell ⟨b, 1, none⟩ (.int .i64 an)).setCell ⟨b, 2, none⟩ (.int .i64 0)).setCell ⟨b, 3, none⟩ (.int .i64 0)).setCell ⟨b, 4, none⟩ (.int .i64 0)).setCell ⟨b, 5, none⟩ (.string ⟨#[]⟩))).heap[b]? = some (.cells #[.int .i64 ak, .int .i64 an, .int .i64 0, .int .i64 0, .int .i64 0, .string ⟨#[]⟩, .slice none 0 0] t (0, 0)) := by
    have := heap_setCell_same _ b 5 _ t (.string ⟨#[]⟩) e4
    simpa using this
  have e6 : ((((((((w.setCell ⟨b, 0, none⟩ (.int .i64 ak)).setCell ⟨b, 1, none⟩ (.int .i64 an)).setCell ⟨b, 2, none⟩ (.int .i64 0)).setCell ⟨b, 3, none⟩ (.int .i64 0)).setCell ⟨b, 4, none⟩ (.int .i64 0)).setCell ⟨b, 5, none⟩ (.string ⟨#[]⟩)).setCell ⟨b, 6, none⟩ (.slice none 0 0))).heap[b]? = some (.cells #[.int .i64 ak, .int .i64 an, .int .i64 0, .int .i64 0, .int .i64 0, .string ⟨#[]⟩, .slice none 0 0] t (0, 0)) := by
    have := heap_setCell_same _ b 6 _ t (.slice none 0 0) e5
    simpa using this
  have B0 := (Below.refl b w).setCell (p := ⟨b, 0, none⟩) (Nat.le_refl _) (.int .i64 ak)
  have B1 := B0.setCell (p := ⟨b, 1, none⟩) (Nat.le_refl _) (.int .i64 an)
  have B2 := B1.setCell (p := ⟨b, 2, none⟩) (Nat.le_refl _) (.int .i64 0)
  have B3 := B2.setCell (p := ⟨b, 3, none⟩) (Nat.le_refl _) (.int .i64 0)
  have B4 := B3.setCell (p := ⟨b, 4, none⟩) (Nat.le_refl _) (.int .i64 0)
  have B5 := B4.setCell (p := ⟨b, 5, none⟩) (Nat.le_refl _) (.string ⟨#[]⟩)
  have B6 := B5.setCell (p := ⟨b, 6, none⟩) (Nat.le_refl _) (.slice none 0 0)
  refine ⟨e6, fun k hk => ?_, by simp, B6.os, B6.tape, B6.output⟩
  rw [Below.heap_setCell _ _ _ _ hk, Below.heap_setCell _ _ _ _ hk, Below.heap_setCell _ _ _ _ hk, Below.heap_setCell _ _ _ _ hk, Below.heap_setCell _ _ _ _ hk, Below.heap_setCell _ _ _ _ hk, Below.heap_setCell _ _ _ _ hk]
set_option maxHeartbeats 1600000 in
theorem address_none {d : Nat} {q : Q} {w : World} (h : RB w d q) (hk : q.pl ≤ q.T.size) (hT : q.T.size ≤ 100000) (h1 : seesP q.T sD q.pl = false) (h2 : seesP q.T sLast q.pl = false) (h3 : seesP q.T sSlash q.pl = false) :
    Calls Tryz.prog 86 #[.pointer (some ⟨d, 0, none⟩)] w fun e w' => e = .returned (.agg #[.int .i64 0, .int .i64 0, .int .i64 0, .int .i64 0, .int .i64 0, .string ⟨#[]⟩, .slice none 0 0]) ∧ RB w' d { q with pl := q.pl } ∧ w.grownBy w' (some d) := by
  obtain ⟨W0, hW0⟩ : ∃ W0, w.alloc (.cells #[.int .i64 0, .int .i64 0, .int .i64 0, .int .i64 0, .int .i64 0, .string ⟨#[]⟩, .slice none 0 0] 58) = W0 := ⟨_, rfl⟩
  have b0 : Below w.heap.size w W0 := by rw [← hW0]; exact more (Below.refl _ _) _
  have x0 : W0.heap[w.heap.size]? = some (.cells #[.int .i64 0, .int .i64 0, .int .i64 0, .int .i64 0, .int .i64 0, .string ⟨#[]⟩, .slice none 0 0] 58 (0, 0)) := by rw [← hW0]; exact heap_alloc_new w _
  have s0 : W0.heap.size = w.heap.size + 1 := by rw [← hW0]; exact World.size_alloc ..
  have hd := h.lt
  have M0 : Mv W0 d q q.pl W0 := Mv.refl (h.below b0)
  have HF : Hid (∀ w1 (ak an : Int) kk, Mv W0 d q kk w1 → (w1.cell? ⟨w.heap.size, 0, none⟩ = some (.int .i64 0) ∧ w1.cell? ⟨w.heap.size, 1, none⟩ = some (.int .i64 0) ∧ w1.cell? ⟨w.heap.size, 2, none⟩ = some (.int .i64 0) ∧ w1.cell? ⟨w.heap.size, 3, none⟩ = some (.int .i64 0) ∧ w1.cell? ⟨w.heap.size, 4, none⟩ = some (.int .i64 0) ∧ w1.cell? ⟨w.heap.size, 5, none⟩ = some (.string ⟨#[]⟩) ∧ w1.cell? ⟨w.heap.size, 6, none⟩ = some (.slice none 0 0)) ∧ (∀ i, w1.frozen? ⟨w.heap.size, i, none⟩ = false) ∧ ∃ WF, Hid ((((((((w1.setCell ⟨w.heap.size, 0, none⟩ (.int .i64 ak)).setCell ⟨w.heap.size, 1, none⟩ (.int .i64 an)).setCell ⟨w.heap.size, 2, none⟩ (.int .i64 0)).setCell ⟨w.heap.size, 3, none⟩ (.int .i64 0)).setCell ⟨w.heap.size, 4, none⟩ (.int .i64 0)).setCell ⟨w.heap.size, 5, none⟩ (.string ⟨#[]⟩)).setCell ⟨w.heap.size, 6, none⟩ (.slice none 0 0)) = WF) ∧ Hid (WF.heap[w.heap.size]? = some (.cells #[.int .i64 ak, .int .i64 an, .int .i64 0, .int .i64 0, .int .i64 0, .string ⟨#[]⟩, .slice none 0 0] 58 (0, 0))) ∧ Hid (RB WF d { q with pl := kk } ∧ w.grownBy WF (some d))) := by
    intro w1 ak an kk hm
    have y : w1.heap[w.heap.size]? = some (.cells #[.int .i64 0, .int .i64 0, .int .i64 0, .int .i64 0, .int .i64 0, .string ⟨#[]⟩, .slice none 0 0] 58 (0, 0)) := (hm.gr.block _ (by omega) (by simp; omega)).trans x0
    obtain ⟨z1, z2, z3, z4, z5, z6⟩ := sets7 y ak an
    obtain ⟨WF, hWF⟩ : ∃ WF, (((((((w1.setCell ⟨w.heap.size, 0, none⟩ (.int .i64 ak)).setCell ⟨w.heap.size, 1, none⟩ (.int .i64 an)).setCell ⟨w.heap.size, 2, none⟩ (.int .i64 0)).setCell ⟨w.heap.size, 3, none⟩ (.int .i64 0)).setCell ⟨w.heap.size, 4, none⟩ (.int .i64 0)).setCell ⟨w.heap.size, 5, none⟩ (.string ⟨#[]⟩)).setCell ⟨w.heap.size, 6, none⟩ (.slice none 0 0)) = WF := ⟨_, rfl⟩
    rw [hWF] at z1 z2 z3 z4 z5 z6
    refine ⟨⟨cell_of y rfl, cell_of y rfl, cell_of y rfl, cell_of y rfl, cell_of y rfl, cell_of y rfl, cell_of y rfl⟩, fun i => frozen_of y i, WF, hWF, z1, hm.rb.keep (z2 d (by omega)), ?_⟩
    have g := grown_tr (grown_of (d := d) b0) hm.gr
    exact ⟨z4.trans g.os, z5.trans g.tape, z6.trans g.output, by rw [z3]; exact g.size, fun k hk hn => (z2 k (by omega)).trans (g.block k hk hn)⟩
  have HM0 := hide M0
  clear M0 h b0 x0
  go_enter Tryz.func86, Tryz.ntmps86
  have H1 := mv_sees sD HM0.out hk hT
  rw [h1] at H1
  have H1 := hide H1
  clear HM0
  go_wp2_with fail
  (try rw [hW0])
  refine H1.out.mono ?_
  rintro e w1 ⟨rfl, hm1⟩
  have HM1 := hide hm1
  clear H1 hm1 hW0
  have H2 := mv_takes sLast HM1.out hk hT
  rw [h2] at H2
  rw [if_neg Bool.false_ne_true] at H2
  have H2 := hide H2
  clear HM1
  go_wp2_with fail
  refine H2.out.mono ?_
  rintro e w2 ⟨rfl, hm2⟩
  have HM2 := hide hm2
  clear H2 hm2
  have H3 := mv_takes sSlash HM2.out hk hT
  rw [h3] at H3
  rw [if_neg Bool.false_ne_true] at H3
  have H3 := hide H3
  clear HM2
  go_wp2_with fail
  refine H3.out.mono ?_
  rintro e w3 ⟨rfl, hm3⟩
  have HM3 := hide hm3
  clear H3 hm3
  obtain ⟨⟨c0, c1, c2, c3, c4, c5, c6⟩, hfz, WF, hWF, HW, HB⟩ := HF.out w3 0 0 _ HM3.out
  have g0 := hfz 0
  have g1 := hfz 1
  have g2 := hfz 2
  have g3 := hfz 3
  have g4 := hfz 4
  have g5 := hfz 5
  have g6 := hfz 6
  clear hfz HF HM3
  go_wp2
  rw [hWF.out]
  refine bodyPost_ret (v := .agg #[.int .i64 0, .int .i64 0, .int .i64 0, .int .i64 0, .int .i64 0, .string ⟨#[]⟩, .slice none 0 0]) (results_cell_row rfl _ _ _ 58 _ (0, 0) _ rfl HW.out Tryz.underlying58 rfl (by kernel_rfl)) rfl ⟨rfl, HB.out⟩

set_option maxHeartbeats 1600000 in
theorem address_last {d : Nat} {q : Q} {w : World} (h : RB w d q) (hk : q.pl ≤ q.T.size) (hT : q.T.size ≤ 100000) (h1 : seesP q.T sD q.pl = false) (h2 : seesP q.T sLast q.pl = true) :
    Calls Tryz.prog 86 #[.pointer (some ⟨d, 0, none⟩)] w fun e w' => e = .returned (.agg #[.int .i64 2, .int .i64 0, .int .i64 0, .int .i64 0, .int .i64 0, .string ⟨#[]⟩, .slice none 0 0]) ∧ RB w' d { q with pl := q.pl + 1 } ∧ w.grownBy w' (some d) := by
  obtain ⟨W0, hW0⟩ : ∃ W0, w.alloc (.cells #[.int .i64 0, .int .i64 0, .int .i64 0, .int .i64 0, .int .i64 0, .string ⟨#[]⟩, .slice none 0 0] 58) = W0 := ⟨_, rfl⟩
  have b0 : Below w.heap.size w W0 := by rw [← hW0]; exact more (Below.refl _ _) _
  have x0 : W0.heap[w.heap.size]? = some (.cells #[.int .i64 0, .int .i64 0, .int .i64 0, .int .i64 0, .int .i64 0, .string ⟨#[]⟩, .slice none 0 0] 58 (0, 0)) := by rw [← hW0]; exact heap_alloc_new w _
  have s0 : W0.heap.size = w.heap.size + 1 := by rw [← hW0]; exact World.size_alloc ..
  have hd := h.lt
  have M0 : Mv W0 d q q.pl W0 := Mv.refl (h.below b0)
  have HF : Hid (∀ w1 (ak an : Int) kk, Mv W0 d q kk w1 → (w1.cell? ⟨w.heap.size, 0, none⟩ = some (.int .i64 0) ∧ w1.cell? ⟨w.heap.size, 1, none⟩ = some (.int .i64 0) ∧ w1.cell? ⟨w.heap.size, 2, none⟩ = some (.int .i64 0) ∧ w1.cell? ⟨w.heap.size, 3, none⟩ = some (.int .i64 0) ∧ w1.cell? ⟨w.heap.size, 4, none⟩ = some (.int .i64 0) ∧ w1.cell? ⟨w.heap.size, 5, none⟩ = some (.string ⟨#[]⟩) ∧ w1.cell? ⟨w.heap.size, 6, none⟩ = some (.slice none 0 0)) ∧ (∀ i, w1.frozen? ⟨w.heap.size, i, none⟩ = false) ∧ ∃ WF, Hid ((((((((w1.setCell ⟨w.heap.size, 0, none⟩ (.int .i64 ak)).setCell ⟨w.heap.size, 1, none⟩ (.int .i64 an)).setCell ⟨w.heap.size, 2, none⟩ (.int .i64 0)).setCell ⟨w.heap.size, 3, none⟩ (.int .i64 0)).setCell ⟨w.heap.size, 4, none⟩ (.int .i64 0)).setCell ⟨w.heap.size, 5, none⟩ (.string ⟨#[]⟩)).setCell ⟨w.heap.size, 6, none⟩ (.slice none 0 0)) = WF) ∧ Hid (WF.heap[w.heap.size]? = some (.cells #[.int .i64 ak, .int .i64 an, .int .i64 0, .int .i64 0, .int .i64 0, .string ⟨#[]⟩, .slice none 0 0] 58 (0, 0))) ∧ Hid (RB WF d { q with pl := kk } ∧ w.grownBy WF (some d))) := by
    intro w1 ak an kk hm
    have y : w1.heap[w.heap.size]? = some (.cells #[.int .i64 0, .int .i64 0, .int .i64 0, .int .i64 0, .int .i64 0, .string ⟨#[]⟩, .slice none 0 0] 58 (0, 0)) := (hm.gr.block _ (by omega) (by simp; omega)).trans x0
    obtain ⟨z1, z2, z3, z4, z5, z6⟩ := sets7 y ak an
    obtain ⟨WF, hWF⟩ : ∃ WF, (((((((w1.setCell ⟨w.heap.size, 0, none⟩ (.int .i64 ak)).setCell ⟨w.heap.size, 1, none⟩ (.int .i64 an)).setCell ⟨w.heap.size, 2, none⟩ (.int .i64 0)).setCell ⟨w.heap.size, 3, none⟩ (.int .i64 0)).setCell ⟨w.heap.size, 4, none⟩ (.int .i64 0)).setCell ⟨w.heap.size, 5, none⟩ (.string ⟨#[]⟩)).setCell ⟨w.heap.size, 6, none⟩ (.slice none 0 0)) = WF := ⟨_, rfl⟩
    rw [hWF] at z1 z2 z3 z4 z5 z6
    refine ⟨⟨cell_of y rfl, cell_of y rfl, cell_of y rfl, cell_of y rfl, cell_of y rfl, cell_of y rfl, cell_of y rfl⟩, fun i => frozen_of y i, WF, hWF, z1, hm.rb.keep (z2 d (by omega)), ?_⟩
    have g := grown_tr (grown_of (d := d) b0) hm.gr
    exact ⟨z4.trans g.os, z5.trans g.tape, z6.trans g.output, by rw [z3]; exact g.size, fun k hk hn => (z2 k (by omega)).trans (g.block k hk hn)⟩
  have HM0 := hide M0
  clear M0 h b0 x0
  go_enter Tryz.func86, Tryz.ntmps86
  have H1 := mv_sees sD HM0.out hk hT
  rw [h1] at H1
  have H1 := hide H1
  clear HM0
  go_wp2_with fail
  (try rw [hW0])
  refine H1.out.mono ?_
  rintro e w1 ⟨rfl, hm1⟩
  have HM1 := hide hm1
  clear H1 hm1 hW0
  have H2 := mv_takes sLast HM1.out hk hT
  rw [h2] at H2
  rw [if_pos rfl] at H2
  have H2 := hide H2
  clear HM1
  go_wp2_with fail
  refine H2.out.mono ?_
  rintro e w2 ⟨rfl, hm2⟩
  have HM2 := hide hm2
  clear H2 hm2
  obtain ⟨⟨c0, c1, c2, c3, c4, c5, c6⟩, hfz, WF, hWF, HW, HB⟩ := HF.out w2 2 0 _ HM2.out
  have g0 := hfz 0
  have g1 := hfz 1
  have g2 := hfz 2
  have g3 := hfz 3
  have g4 := hfz 4
  have g5 := hfz 5
  have g6 := hfz 6
  clear hfz HF HM2
  go_wp2
  rw [hWF.out]
  refine bodyPost_ret (v := .agg #[.int .i64 2, .int .i64 0, .int .i64 0, .int .i64 0, .int .i64 0, .string ⟨#[]⟩, .slice none 0 0]) (results_cell_row rfl _ _ _ 58 _ (0, 0) _ rfl HW.out Tryz.underlying58 rfl (by kernel_rfl)) rfl ⟨rfl, HB.out⟩

end Go.Proofs.YtdhachmelgdknaaGreatDoor.rdr
