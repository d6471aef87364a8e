/- Contracts of the program's reader of values: a whole job; impl's ReadJob. -/
import Derived.Test.YtdahnooehjdcgaaRdJ
import Derived.Test.YtdahnooehjdcgaaJOk
namespace Go.Proofs.Ytdahnooehjdcgaa.rdk
open Go.ChangeShapes Go.WideShapes Go.ChangeAt Go.RowKit
open Go.Proofs.Ytdahnooehjdcgaa.bytes Go.Proofs.Ytdahnooehjdcgaa.pile Go.Proofs.Ytdahnooehjdcgaa.get Go.Proofs.Ytdahnooehjdcgaa.dec Go.Proofs.Ytdahnooehjdcgaa.jhelp Go.Proofs.Ytdahnooehjdcgaa.read Go.Proofs.Ytdahnooehjdcgaa.rdi Go.Proofs.Ytdahnooehjdcgaa.rdj Go.Proofs.Ytdahnooehjdcgaa.jok
set_option linter.unusedVariables false

/-- The job that is read, as a value. -/
def jobV (j : RJ) (f : Int) : Value := .agg #[.int .i64 j.c, .int .i64 j.s, .string j.F, .int .i64 j.v, .string j.S, .string j.T, .bool (bits .and .u8 f 1 != 0), .bool (bits .and .u8 f 2 != 0)]

theorem blk_kept {w w' : World} {d b : Nat} {o : Obj} (hb : w.heap[b]? = some o) (hne : b ≠ d) (g : w.grownBy w' (some d)) : w'.heap[b]? = some o := (g.block b (Array.getElem?_eq_some_iff.1 hb).1 (fun e => hne (by simpa using e))).trans hb

set_option maxRecDepth 20000 in
set_option maxHeartbeats 3200000 in
theorem job_any (w : World) (d : Nat) (ao : Option Addr) (cap : Nat) (xs : List Int) (h : Rdr 51 w d ao cap xs 0 false) (hl : xs.length ≤ 65536) :
    Calls Try.prog 22 #[.pointer (some ⟨d, 0, none⟩)] w fun r w' => r = .returned (jobV (jI xs) (flV xs (jI xs).a)) ∧ (∃ a', Rdr 51 w' d ao cap xs a' (badJ xs)) ∧ w.grownBy w' (some d) := by
  obtain ⟨p1, hp1⟩ : ∃ p, p = vI xs 0 false := ⟨_, rfl⟩
  obtain ⟨p2, hp2⟩ : ∃ p, p = vI xs p1.2.1 p1.2.2 := ⟨_, rfl⟩
  obtain ⟨p3, hp3⟩ : ∃ p, p = tI xs p2.2.1 p2.2.2 := ⟨_, rfl⟩
  obtain ⟨p4, hp4⟩ : ∃ p, p = vI xs p3.2.1 p3.2.2 := ⟨_, rfl⟩
  obtain ⟨p5, hp5⟩ : ∃ p, p = tI xs p4.2.1 p4.2.2 := ⟨_, rfl⟩
  obtain ⟨p6, hp6⟩ : ∃ p, p = tI xs p5.2.1 p5.2.2 := ⟨_, rfl⟩
  have HJ : Hid (jI xs = ⟨p1.1, p2.1, p3.1, p4.1, p5.1, p6.1, p6.2.1, p6.2.2⟩) := by subst hp6 hp5 hp4 hp3 hp2 hp1; rfl
  have C1 : Hid (∀ wx, Rdr 51 wx d ao cap xs 0 false → Calls Try.prog 33 #[.pointer (some ⟨d, 0, none⟩)] wx fun r w' => r = .returned (.int .i64 p1.1) ∧ Rdr 51 w' d ao cap xs p1.2.1 p1.2.2 ∧ wx.grownBy w' (some d)) := fun wx hr => by rw [hp1]; exact value_any wx d ao cap xs _ _ hr hl
  have C2 : Hid (∀ wx, Rdr 51 wx d ao cap xs p1.2.1 p1.2.2 → Calls Try.prog 33 #[.pointer (some ⟨d, 0, none⟩)] wx fun r w' => r = .returned (.int .i64 p2.1) ∧ Rdr 51 w' d ao cap xs p2.2.1 p2.2.2 ∧ wx.grownBy w' (some d)) := fun wx hr => by rw [hp2]; exact value_any wx d ao cap xs _ _ hr hl
  have C3 : Hid (∀ wx, Rdr 51 wx d ao cap xs p2.2.1 p2.2.2 → Calls Try.prog 34 #[.pointer (some ⟨d, 0, none⟩)] wx fun r w' => r = .returned (.string p3.1) ∧ Rdr 51 w' d ao cap xs p3.2.1 p3.2.2 ∧ wx.grownBy w' (some d)) := fun wx hr => by rw [hp3]; exact text_any wx d ao cap xs _ _ hr hl
  have C4 : Hid (∀ wx, Rdr 51 wx d ao cap xs p3.2.1 p3.2.2 → Calls Try.prog 33 #[.pointer (some ⟨d, 0, none⟩)] wx fun r w' => r = .returned (.int .i64 p4.1) ∧ Rdr 51 w' d ao cap xs p4.2.1 p4.2.2 ∧ wx.grownBy w' (some d)) := fun wx hr => by rw [hp4]; exact value_any wx d ao cap xs _ _ hr hl
  have C5 : Hid (∀ wx, Rdr 51 wx d ao cap xs p4.2.1 p4.2.2 → Calls Try.prog 34 #[.pointer (some ⟨d, 0, none⟩)] wx fun r w' => r = .returned (.string p5.1) ∧ Rdr 51 w' d ao cap xs p5.2.1 p5.2.2 ∧ wx.grownBy w' (some d)) := fun wx hr => by rw [hp5]; exact text_any wx d ao cap xs _ _ hr hl
  have C6 : Hid (∀ wx, Rdr 51 wx d ao cap xs p5.2.1 p5.2.2 → Calls Try.prog 34 #[.pointer (some ⟨d, 0, none⟩)] wx fun r w' => r = .returned (.string p6.1) ∧ Rdr 51 w' d ao cap xs p6.2.1 p6.2.2 ∧ wx.grownBy w' (some d)) := fun wx hr => by rw [hp6]; exact text_any wx d ao cap xs _ _ hr hl
  obtain ⟨f, hf⟩ : ∃ f, f = flV xs p6.2.1 := ⟨_, rfl⟩
  have C7 : Hid (∀ wx, Rdr 51 wx d ao cap xs p6.2.1 p6.2.2 → Calls Try.prog 35 #[.pointer (some ⟨d, 0, none⟩)] wx fun r w' => r = .returned (.int .u8 f) ∧ (∃ a', Rdr 51 w' d ao cap xs a' (badJ xs)) ∧ wx.grownBy w' (some d)) := fun wx hr => by
    have e : badJ xs = endB xs p6.2.1 p6.2.2 := by unfold badJ; rw [HJ.out]
    rw [hf, e]
    exact flags_any wx d ao cap xs _ _ hr hl
  have HV : Hid (jobV (jI xs) (flV xs (jI xs).a) = .agg #[.int .i64 p1.1, .int .i64 p2.1, .string p3.1, .int .i64 p4.1, .string p5.1, .string p6.1, .bool (bits .and .u8 f 1 != 0), .bool (bits .and .u8 f 2 != 0)]) := by unfold Hid jobV; rw [HJ.out, hf]
  rw [HV.out]
  obtain ⟨W0, hW0⟩ : ∃ W, W = w.alloc (.cells #[.int .i64 0, .int .i64 0, .string ⟨#[]⟩, .int .i64 0, .string ⟨#[]⟩, .string ⟨#[]⟩, .bool false, .bool false] 28) := ⟨_, rfl⟩
  have b0 : Below w.heap.size w W0 := by rw [hW0]; exact (Below.refl _ _).alloc (Nat.le_refl _) _
  have hdw : d < w.heap.size := (Array.getElem?_eq_some_iff.1 h.1).1
  have K0 : W0.heap[w.heap.size]? = some (.cells #[.int .i64 0, .int .i64 0, .string ⟨#[]⟩, .int .i64 0, .string ⟨#[]⟩, .string ⟨#[]⟩, .bool false, .bool false] 28 (0, 0)) := by rw [hW0]; exact heap_alloc_new w _
  have R0 := Rdr.grown h b0
  have G0 : Hid (w.grownBy W0 (some d)) := by rw [hW0]; exact World.grownBy_alloc w _ _
  have hne : w.heap.size ≠ d := by omega
  have HC := C1.out W0 R0
  rw [hW0] at HC
  clear hp1 hp2 hp3 hp4 hp5 hp6 hf HV HJ C1 R0 b0 h
  go_enter Try.func22, Try.ntmps22
  go_wp2_with fail
  refine HC.mono ?_
  rw [← hW0]
  rintro r w1 ⟨rfl, R1, g1⟩
  have K1 := blk_kept K0 hne g1
  have G1 : Hid (w.grownBy w1 (some d)) := grown_trans G0.out g1
  clear hW0 HC K0 G0 g1
  go_wp2_with fail
  refine (C2.out w1 R1).mono ?_
  rintro r w2 ⟨rfl, R2, g2⟩
  have K2 := blk_kept K1 hne g2
  have G2 : Hid (w.grownBy w2 (some d)) := grown_trans G1.out g2
  clear R1 K1 G1 g2 C2
  go_wp2_with fail
  refine (C3.out w2 R2).mono ?_
  rintro r w3 ⟨rfl, R3, g3⟩
  have K3 := blk_kept K2 hne g3
  have G3 : Hid (w.grownBy w3 (some d)) := grown_trans G2.out g3
  clear R2 K2 G2 g3 C3
  go_wp2_with fail
  refine (C4.out w3 R3).mono ?_
  rintro r w4 ⟨rfl, R4, g4⟩
  have K4 := blk_kept K3 hne g4
  have G4 : Hid (w.grownBy w4 (some d)) := grown_trans G3.out g4
  clear R3 K3 G3 g4 C4
  go_wp2_with fail
  refine (C5.out w4 R4).mono ?_
  rintro r w5 ⟨rfl, R5, g5⟩
  have K5 := blk_kept K4 hne g5
  have G5 : Hid (w.grownBy w5 (some d)) := grown_trans G4.out g5
  clear R4 K4 G4 g5 C5
  go_wp2_with fail
  refine (C6.out w5 R5).mono ?_
  rintro r w6 ⟨rfl, R6, g6⟩
  have K6 := blk_kept K5 hne g6
  have G6 : Hid (w.grownBy w6 (some d)) := grown_trans G5.out g6
  clear R5 K5 G5 g6 C6
  obtain ⟨W7, hW7⟩ : ∃ W, W = w6.alloc (.cells #[.int .i64 p1.1, .int .i64 p2.1, .string p3.1, .int .i64 p4.1, .string p5.1, .string p6.1, .bool false, .bool false] 28) := ⟨_, rfl⟩
  have b7 : Below w6.heap.size w6 W7 := by rw [hW7]; exact (Below.refl _ _).alloc (Nat.le_refl _) _
  have s6 := G6.out.size
  have K7 := kept b7 K6 (Nat.le_refl _)
  have L7 : W7.heap[w6.heap.size]? = some (.cells #[.int .i64 p1.1, .int .i64 p2.1, .string p3.1, .int .i64 p4.1, .string p5.1, .string p6.1, .bool false, .bool false] 28 (0, 0)) := by rw [hW7]; exact heap_alloc_new w6 _
  have G7 : Hid (w.grownBy W7 (some d)) := by rw [hW7]; exact grown_trans G6.out (World.grownBy_alloc w6 _ _)
  have HF := C7.out W7 (Rdr.grown R6 b7)
  rw [hW7] at HF
  have hne6 : w6.heap.size ≠ d := by omega
  have hne7 : w6.heap.size ≠ w.heap.size := by
    have := (Array.getElem?_eq_some_iff.1 K6).1
    omega
  clear b7 R6 K6 G6 C7
  go_wp2_with fail
  refine HF.mono ?_
  rw [← hW7]
  rintro r w8 ⟨rfl, ⟨a8, R8⟩, g8⟩
  clear hW7 HF
  have K8 := blk_kept K7 hne g8
  have L8 := blk_kept L7 hne6 g8
  have G8 : Hid (w.grownBy w8 (some d)) := grown_trans G7.out g8
  have x6 : w8.cell? ⟨w6.heap.size, 6, none⟩ = some (.bool false) := cell_of L8 rfl
  have x7 : w8.cell? ⟨w6.heap.size, 7, none⟩ = some (.bool false) := cell_of L8 rfl
  have y6 := frozen_of L8 6
  have y7 := frozen_of L8 7
  obtain ⟨w9, hw9⟩ : ∃ x, x = (w8.setCell ⟨w6.heap.size, 6, none⟩ (.bool (bits .and .u8 f 1 != 0))).setCell ⟨w6.heap.size, 7, none⟩ (.bool (bits .and .u8 f 2 != 0)) := ⟨_, rfl⟩
  have L9 : w9.heap[w6.heap.size]? = some (.cells #[.int .i64 p1.1, .int .i64 p2.1, .string p3.1, .int .i64 p4.1, .string p5.1, .string p6.1, .bool (bits .and .u8 f 1 != 0), .bool (bits .and .u8 f 2 != 0)] 28 (0, 0)) := by
    have q1 : (w8.setCell ⟨w6.heap.size, 6, none⟩ (.bool (bits .and .u8 f 1 != 0))).heap[w6.heap.size]? = some (.cells #[.int .i64 p1.1, .int .i64 p2.1, .string p3.1, .int .i64 p4.1, .string p5.1, .string p6.1, .bool (bits .and .u8 f 1 != 0), .bool false] 28 (0, 0)) := set_at L8 6 _ rfl
    rw [hw9]
    exact set_at q1 7 _ rfl
  have g9 : w8.grownBy w9 (some w6.heap.size) := by rw [hw9]; exact grown_trans (set_grown _ _ _ _) (set_grown _ _ _ _)
  have K9 := blk_kept K8 (Ne.symm hne7) g9
  have R9 : Rdr 51 w9 d ao cap xs a8 (badJ xs) := ⟨blk_kept R8.1 (Ne.symm hne6) g9, R8.2.1, by
    obtain ⟨⟨ao', cap', e, h1, h2, h3, h4⟩, hnil⟩ := R8.2.2
    refine ⟨⟨ao', cap', e, h1, h2, h3, fun hp => ?_⟩, hnil⟩
    obtain ⟨B, off, rfl, hc⟩ := h4 hp
    refine ⟨B, off, rfl, fun i hi => ?_⟩
    have hci := hc i hi
    have hBne : B ≠ w6.heap.size := fun e => by
      subst e
      have hq : w8.cell? ⟨w6.heap.size, off + i, none⟩ = (#[.int .i64 p1.1, .int .i64 p2.1, .string p3.1, .int .i64 p4.1, .string p5.1, .string p6.1, .bool false, .bool false] : Array Value)[off + i]? := by simp [World.cell?, L8]
      rw [hq] at hci
      have h3 : off + i = 0 ∨ off + i = 1 ∨ off + i = 2 ∨ off + i = 3 ∨ off + i = 4 ∨ off + i = 5 ∨ off + i = 6 ∨ off + i = 7 ∨ 8 ≤ off + i := by omega
      rcases h3 with e | e | e | e | e | e | e | e | e
      all_goals first | (rw [e] at hci; simp at hci; done) | (rw [Array.getElem?_eq_none (by simpa using e)] at hci; simp at hci)
    rw [World.cell?_of_block (a := ⟨B, off + i, none⟩) (g9.block B (cell_lt hci) (fun e => hBne (by simpa using e)))]
    exact hci⟩
  have G9 : Hid (∀ j, j < w.heap.size → some j ≠ some d → w9.heap[j]? = w.heap[j]?) := fun j hj hjd => by
    rw [g9.block j (by have := G8.out.size; omega) (fun e => by simp only [Option.some.injEq] at e; omega)]
    exact G8.out.block j hj hjd
  have H9 : Hid (w9.os = w.os ∧ w9.tape = w.tape ∧ w9.output = w.output ∧ w.heap.size ≤ w9.heap.size) := ⟨g9.os.trans G8.out.os, g9.tape.trans G8.out.tape, g9.output.trans G8.out.output, Nat.le_trans G8.out.size g9.size⟩
  have z0 : w9.cell? ⟨w6.heap.size, 0, none⟩ = some (.int .i64 p1.1) := cell_of L9 rfl
  have z1 : w9.cell? ⟨w6.heap.size, 1, none⟩ = some (.int .i64 p2.1) := cell_of L9 rfl
  have z2 : w9.cell? ⟨w6.heap.size, 2, none⟩ = some (.string p3.1) := cell_of L9 rfl
  have z3 : w9.cell? ⟨w6.heap.size, 3, none⟩ = some (.int .i64 p4.1) := cell_of L9 rfl
  have z4 : w9.cell? ⟨w6.heap.size, 4, none⟩ = some (.string p5.1) := cell_of L9 rfl
  have z5 : w9.cell? ⟨w6.heap.size, 5, none⟩ = some (.string p6.1) := cell_of L9 rfl
  have z6 : w9.cell? ⟨w6.heap.size, 6, none⟩ = some (.bool (bits .and .u8 f 1 != 0)) := cell_of L9 rfl
  have z7 : w9.cell? ⟨w6.heap.size, 7, none⟩ = some (.bool (bits .and .u8 f 2 != 0)) := cell_of L9 rfl
  have r0 := cell_of (i := 0) K9 rfl
  have u0 := frozen_of K9 0
  have r1 := cell_of (i := 1) K9 rfl
  have u1 := frozen_of K9 1
  have r2 := cell_of (i := 2) K9 rfl
  have u2 := frozen_of K9 2
  have r3 := cell_of (i := 3) K9 rfl
  have u3 := frozen_of K9 3
  have r4 := cell_of (i := 4) K9 rfl
  have u4 := frozen_of K9 4
  have r5 := cell_of (i := 5) K9 rfl
  have u5 := frozen_of K9 5
  have r6 := cell_of (i := 6) K9 rfl
  have u6 := frozen_of K9 6
  have r7 := cell_of (i := 7) K9 rfl
  have u7 := frozen_of K9 7
  have HK : Hid (w9.heap[w.heap.size]? = some (.cells #[.int .i64 0, .int .i64 0, .string ⟨#[]⟩, .int .i64 0, .string ⟨#[]⟩, .string ⟨#[]⟩, .bool false, .bool false] 28 (0, 0)) ∧ Rdr 51 w9 d ao cap xs a8 (badJ xs)) := ⟨K9, R9⟩
  have HS := eight_sets K9 (.int .i64 p1.1) (.int .i64 p2.1) (.string p3.1) (.int .i64 p4.1) (.string p5.1) (.string p6.1) (.bool (bits .and .u8 f 1 != 0)) (.bool (bits .and .u8 f 2 != 0))
  obtain ⟨W10, hW10⟩ : ∃ x, x = ((((((((w9.setCell ⟨w.heap.size, 0, none⟩ (.int .i64 p1.1)).setCell ⟨w.heap.size, 1, none⟩ (.int .i64 p2.1)).setCell ⟨w.heap.size, 2, none⟩ (.string p3.1)).setCell ⟨w.heap.size, 3, none⟩ (.int .i64 p4.1)).setCell ⟨w.heap.size, 4, none⟩ (.string p5.1)).setCell ⟨w.heap.size, 5, none⟩ (.string p6.1)).setCell ⟨w.heap.size, 6, none⟩ (.bool (bits .and .u8 f 1 != 0))).setCell ⟨w.heap.size, 7, none⟩ (.bool (bits .and .u8 f 2 != 0))) := ⟨_, rfl⟩
  rw [← hW10] at HS
  have HEnd : Hid ((∃ a', Rdr 51 W10 d ao cap xs a' (badJ xs)) ∧ w.grownBy W10 (some d)) := by
    refine ⟨⟨a8, blk_kept R9.1 (Ne.symm hne) HS.2, R9.2.1, ?_⟩, ?_⟩
    · obtain ⟨⟨ao', cap', e, h1, h2, h3, h4⟩, hnil⟩ := R9.2.2
      refine ⟨⟨ao', cap', e, h1, h2, h3, fun hp => ?_⟩, hnil⟩
      obtain ⟨B, off, rfl, hc⟩ := h4 hp
      refine ⟨B, off, rfl, fun i hi => ?_⟩
      have hci := hc i hi
      have hBne : B ≠ w.heap.size := fun e => by
        subst e
        have hq : w9.cell? ⟨w.heap.size, off + i, none⟩ = (#[.int .i64 0, .int .i64 0, .string ⟨#[]⟩, .int .i64 0, .string ⟨#[]⟩, .string ⟨#[]⟩, .bool false, .bool false] : Array Value)[off + i]? := by simp [World.cell?, K9]
        rw [hq] at hci
        have h3 : off + i = 0 ∨ off + i = 1 ∨ off + i = 2 ∨ off + i = 3 ∨ off + i = 4 ∨ off + i = 5 ∨ off + i = 6 ∨ off + i = 7 ∨ 8 ≤ off + i := by omega
        rcases h3 with e | e | e | e | e | e | e | e | e
        all_goals first | (rw [e] at hci; simp at hci; done) | (rw [Array.getElem?_eq_none (by simpa using e)] at hci; simp at hci)
      rw [World.cell?_of_block (a := ⟨B, off + i, none⟩) (HS.2.block B (cell_lt hci) (fun e => hBne (by simpa using e)))]
      exact hci
    · have h9 := H9.out
      exact ⟨HS.2.os.trans h9.1, HS.2.tape.trans h9.2.1, HS.2.output.trans h9.2.2.1, Nat.le_trans h9.2.2.2 HS.2.size, fun j hj hjd => by
        rw [HS.2.block j (by omega) (fun e => by simp only [Option.some.injEq] at e; omega)]
        exact G9.out j hj hjd⟩
  have v0 : W10.cell? ⟨w.heap.size, 0, none⟩ = some (.int .i64 p1.1) := cell_of HS.1 rfl
  have v1 : W10.cell? ⟨w.heap.size, 1, none⟩ = some (.int .i64 p2.1) := cell_of HS.1 rfl
  have v2 : W10.cell? ⟨w.heap.size, 2, none⟩ = some (.string p3.1) := cell_of HS.1 rfl
  have v3 : W10.cell? ⟨w.heap.size, 3, none⟩ = some (.int .i64 p4.1) := cell_of HS.1 rfl
  have v4 : W10.cell? ⟨w.heap.size, 4, none⟩ = some (.string p5.1) := cell_of HS.1 rfl
  have v5 : W10.cell? ⟨w.heap.size, 5, none⟩ = some (.string p6.1) := cell_of HS.1 rfl
  have v6 : W10.cell? ⟨w.heap.size, 6, none⟩ = some (.bool (bits .and .u8 f 1 != 0)) := cell_of HS.1 rfl
  have v7 : W10.cell? ⟨w.heap.size, 7, none⟩ = some (.bool (bits .and .u8 f 2 != 0)) := cell_of HS.1 rfl
  rw [hw9] at hW10 z0 r0 u0 z1 r1 u1 z2 r2 u2 z3 r3 u3 z4 r4 u4 z5 r5 u5 z6 r6 u6 z7 r7 u7
  clear hw9 L9 g9 K9 R9 K8 L8 R8 g8 K7 L7 HS HK G9 H9 G8 G7
  rw [hW10] at v0 v1 v2 v3 v4 v5 v6 v7 HEnd
  clear hW10
  go_wp2
  exact bodyPost_ret (v := .agg #[.int .i64 p1.1, .int .i64 p2.1, .string p3.1, .int .i64 p4.1, .string p5.1, .string p6.1, .bool (bits .and .u8 f 1 != 0), .bool (bits .and .u8 f 2 != 0)]) (by simp [results, Try.results22, go_sem, v0, v1, v2, v3, v4, v5, v6, v7]) rfl ⟨rfl, HEnd.out⟩
end Go.Proofs.Ytdahnooehjdcgaa.rdk
