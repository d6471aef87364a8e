/- Contracts of the program's reader of values: the byte at the end, a whole job. -/
import Derived.Test.YtdahnooehjdcgaaRdI
namespace Go.Proofs.Ytdahnooehjdcgaa.rdj
open Go.ChangeShapes Go.WideShapes Go.ChangeAt Go.RowKit
open Go.Proofs.Ytdahnooehjdcgaa.bytes Go.Proofs.Ytdahnooehjdcgaa.pile Go.Proofs.Ytdahnooehjdcgaa.get Go.Proofs.Ytdahnooehjdcgaa.dec Go.Proofs.Ytdahnooehjdcgaa.jhelp Go.Proofs.Ytdahnooehjdcgaa.read Go.Proofs.Ytdahnooehjdcgaa.rdi
set_option linter.unusedVariables false

theorem eight_sets {w : World} {b t : Nat} {x0 x1 x2 x3 x4 x5 x6 x7 : Value} (h : w.heap[b]? = some (.cells #[x0, x1, x2, x3, x4, x5, x6, x7] t (0, 0))) (y0 y1 y2 y3 y4 y5 y6 y7 : Value) :
    ((((((((w.setCell ⟨b, 0, none⟩ y0).setCell ⟨b, 1, none⟩ y1).setCell ⟨b, 2, none⟩ y2).setCell ⟨b, 3, none⟩ y3).setCell ⟨b, 4, none⟩ y4).setCell ⟨b, 5, none⟩ y5).setCell ⟨b, 6, none⟩ y6).setCell ⟨b, 7, none⟩ y7).heap[b]? = some (.cells #[y0, y1, y2, y3, y4, y5, y6, y7] t (0, 0)) ∧
    w.grownBy ((((((((w.setCell ⟨b, 0, none⟩ y0).setCell ⟨b, 1, none⟩ y1).setCell ⟨b, 2, none⟩ y2).setCell ⟨b, 3, none⟩ y3).setCell ⟨b, 4, none⟩ y4).setCell ⟨b, 5, none⟩ y5).setCell ⟨b, 6, none⟩ y6).setCell ⟨b, 7, none⟩ y7) (some b) :=
  ⟨by
    have e0 : (w.setCell ⟨b, 0, none⟩ y0).heap[b]? = some (.cells #[y0, x1, x2, x3, x4, x5, x6, x7] t (0, 0)) := set_at h 0 y0 rfl
    have e1 : ((w.setCell ⟨b, 0, none⟩ y0).setCell ⟨b, 1, none⟩ y1).heap[b]? = some (.cells #[y0, y1, x2, x3, x4, x5, x6, x7] t (0, 0)) := set_at e0 1 y1 rfl
    have e2 : (((w.setCell ⟨b, 0, none⟩ y0).setCell ⟨b, 1, none⟩ y1).setCell ⟨b, 2, none⟩ y2).heap[b]? = some (.cells #[y0, y1, y2, x3, x4, x5, x6, x7] t (0, 0)) := set_at e1 2 y2 rfl
    have e3 : ((((w.setCell ⟨b, 0, none⟩ y0).setCell ⟨b, 1, none⟩ y1).setCell ⟨b, 2, none⟩ y2).setCell ⟨b, 3, none⟩ y3).heap[b]? = some (.cells #[y0, y1, y2, y3, x4, x5, x6, x7] t (0, 0)) := set_at e2 3 y3 rfl
    have e4 : (((((w.setCell ⟨b, 0, none⟩ y0).setCell ⟨b, 1, none⟩ y1).setCell ⟨b, 2, none⟩ y2).setCell ⟨b, 3, none⟩ y3).setCell ⟨b, 4, none⟩ y4).heap[b]? = some (.cells #[y0, y1, y2, y3, y4, x5, x6, x7] t (0, 0)) := set_at e3 4 y4 rfl
    have e5 : ((((((w.setCell ⟨b, 0, none⟩ y0).setCell ⟨b, 1, none⟩ y1).setCell ⟨b, 2, none⟩ y2).setCell ⟨b, 3, none⟩ y3).setCell ⟨b, 4, none⟩ y4).setCell ⟨b, 5, none⟩ y5).heap[b]? = some (.cells #[y0, y1, y2, y3, y4, y5, x6, x7] t (0, 0)) := set_at e4 5 y5 rfl
    have e6 : (((((((w.setCell ⟨b, 0, none⟩ y0).setCell ⟨b, 1, none⟩ y1).setCell ⟨b, 2, none⟩ y2).setCell ⟨b, 3, none⟩ y3).setCell ⟨b, 4, none⟩ y4).setCell ⟨b, 5, none⟩ y5).setCell ⟨b, 6, none⟩ y6).heap[b]? = some (.cells #[y0, y1, y2, y3, y4, y5, y6, x7] t (0, 0)) := set_at e5 6 y6 rfl
    have e7 : ((((((((w.setCell ⟨b, 0, none⟩ y0).setCell ⟨b, 1, none⟩ y1).setCell ⟨b, 2, none⟩ y2).setCell ⟨b, 3, none⟩ y3).setCell ⟨b, 4, none⟩ y4).setCell ⟨b, 5, none⟩ y5).setCell ⟨b, 6, none⟩ y6).setCell ⟨b, 7, none⟩ y7).heap[b]? = some (.cells #[y0, y1, y2, y3, y4, y5, y6, y7] t (0, 0)) := set_at e6 7 y7 rfl
    exact e7, (grown_trans (grown_trans (grown_trans (grown_trans (grown_trans (grown_trans (grown_trans (set_grown _ _ _ _) (set_grown _ _ _ _)) (set_grown _ _ _ _)) (set_grown _ _ _ _)) (set_grown _ _ _ _)) (set_grown _ _ _ _)) (set_grown _ _ _ _)) (set_grown _ _ _ _))⟩

/-- What the byte at the end is told as. -/
def flV (xs : List Int) (a : Nat) : Int := if a + 1 = xs.length then xs.getD a 0 else 0
theorem flV_bd {xs : List Int} (h : ∀ x ∈ xs, 0 ≤ x ∧ x ≤ 255) (a : Nat) : 0 ≤ flV xs a ∧ flV xs a ≤ 255 := by
  unfold flV
  split
  · exact getD_bd h a
  · omega

theorem Rdr.grown {T : Nat} {w w' : World} {d : Nat} {ao : Option Addr} {cap : Nat} {xs : List Int} {a : Nat} {b : Bool} (h : Rdr T w d ao cap xs a b) (hb : Below w.heap.size w w') : Rdr T w' d ao cap xs a b :=
  ⟨kept hb h.1 (Nat.le_refl _), h.2.1, h.2.2.below hb (Nat.le_refl _)⟩

set_option maxHeartbeats 1600000 in
theorem flags_any (w : World) (d : Nat) (ao : Option Addr) (cap : Nat) (xs : List Int) (a : Nat) (b : Bool) (h : Rdr 51 w d ao cap xs a b) (hl : xs.length ≤ 65536) :
    Calls Try.prog 35 #[.pointer (some ⟨d, 0, none⟩)] w fun r w' => r = .returned (.int .u8 (flV xs a)) ∧ (∃ a', Rdr 51 w' d ao cap xs a' (endB xs a b)) ∧ w.grownBy w' (some d) := by
  obtain ⟨hc1, hc2⟩ := h.bd
  have hm := hc2
  unfold maxLen at hm
  have hle := h.2.1
  have HL := left_any w d ao xs.length cap a (by omega) (by omega) (by omega) (cell_of h.1 rfl) (cell_of h.1 rfl)
  have HR : Hid (Rdr 51 w d ao cap xs a b) := h
  have c2 : w.cell? ⟨d, 2, none⟩ = some (.bool b) := cell_of h.1 rfl
  have f2 := frozen_of h.1 2
  by_cases h1 : a + 1 = xs.length
  · have hv : flV xs a = xs.getD a 0 := by rw [flV, if_pos h1]
    rw [hv]
    have hneI : (((xs.length : Nat) : Int) - (a : Nat) != 1) = false := by simp; omega
    have HT : Hid (∀ m, Calls Try.prog 39 #[.pointer (some ⟨d, 0, none⟩), .int .i64 1] (w.drewN m) fun e w' => e = .returned (cutV ao cap a 1) ∧ ∃ m', w' = ((w.drewN m).drewN m').setCell ⟨d, 1, none⟩ (.int .i64 ((a : Int) + (1 : Nat)))) := fun m => take_any (w.drewN m) d ao xs.length cap a 1 (by omega) hc1 hc2 hl (cell_of (w := w.drewN m) h.1 rfl) (cell_of (w := w.drewN m) h.1 rfl) (frozen_of (w := w.drewN m) h.1 1)
    obtain ⟨⟨ao', cap', e, _, _, hx, h4⟩, _⟩ := h.2.2
    simp only [Value.slice.injEq, true_and] at e
    obtain ⟨rfl, rfl⟩ := e
    obtain ⟨B, off, rfl, hcell⟩ := h4 (by omega)
    have hcut : cutV (some ⟨B, off, none⟩) cap a 1 = .slice (some ⟨B, off + a, none⟩) 1 (cap - a) := by
      unfold cutV
      rw [if_neg (by omega)]
      simp [add_at]
    rw [hcut] at HT
    have hca := hcell a (by omega)
    have HP : Hid (∀ m m', Rdr 51 (((w.drewN m).drewN m').setCell ⟨d, 1, none⟩ (.int .i64 ((a : Int) + (1 : Nat)))) d (some ⟨B, off, none⟩) cap xs (a + 1) b ∧ w.grownBy (((w.drewN m).drewN m').setCell ⟨d, 1, none⟩ (.int .i64 ((a : Int) + (1 : Nat)))) (some d)) := fun m m' => by
      have := (HR.out.drew m).place m' (a + 1) (by omega)
      have e1 : ((a + 1 : Nat) : Int) = (a : Int) + (1 : Nat) := by omega
      rw [e1] at this
      exact ⟨this.1, grown_trans (drew_grown w m _) this.2⟩
    have HCell : Hid (∀ W, Rdr 51 W d (some ⟨B, off, none⟩) cap xs (a + 1) b → W.cell? ⟨B, off + a, none⟩ = some (.int .u8 (xs.getD a 0)) ∧ W.cell? ⟨d, 2, none⟩ = some (.bool b) ∧ W.frozen? ⟨d, 2, none⟩ = false) := fun W hW => by
      refine ⟨?_, cell_of hW.1 rfl, frozen_of hW.1 2⟩
      obtain ⟨⟨ao', cap', e, _, _, _, h5⟩, _⟩ := hW.2.2
      simp only [Value.slice.injEq, true_and] at e
      obtain ⟨rfl, rfl⟩ := e
      obtain ⟨B', off', e', hc'⟩ := h5 (by omega)
      simp only [Option.some.injEq, Addr.mk.injEq, and_true] at e'
      obtain ⟨rfl, rfl⟩ := e'
      exact hc' a (by omega)
    have HEnd : Hid ((3 < xs.getD a 0 → endB xs a b = true) ∧ (¬ 3 < xs.getD a 0 → endB xs a b = b)) := ⟨fun h => by unfold endB; rw [decide_eq_true h]; simp, fun h => by unfold endB; rw [decide_eq_false h, show decide (a + 1 ≠ xs.length) = false from by simp [h1]]; simp⟩
    clear h hcell h4 hcut hv hx hca
    generalize xs.getD a 0 = f at *
    by_cases h3 : 3 < f
    · rw [HEnd.out.1 h3]
      go_enter Try.func35, Try.ntmps35
      go_wp2_with fail
      refine HL.mono ?_
      rintro r w1 ⟨rfl, m, rfl⟩
      clear HL
      go_wp2_with fail
      refine (HT.out m).mono ?_
      rintro r w2 ⟨rfl, m', hw2⟩
      have hP := HP.out m m'
      rw [← hw2] at hP
      have HQ : Hid (Rdr 51 w2 d (some ⟨B, off, none⟩) cap xs (a + 1) b ∧ w.grownBy w2 (some d)) := hP
      obtain ⟨q1, q2, q3⟩ := HCell.out w2 hP.1
      clear hP hw2 HP HT HCell
      have HM : Hid (Rdr 51 (w2.setCell ⟨d, 2, none⟩ (.bool true)) d (some ⟨B, off, none⟩) cap xs (a + 1) true ∧ w2.grownBy (w2.setCell ⟨d, 2, none⟩ (.bool true)) (some d)) := HQ.out.1.mark 0
      go_wp2
      go_ret
      exact ⟨rfl, ⟨_, HM.out.1⟩, grown_trans HQ.out.2 HM.out.2⟩
    · rw [HEnd.out.2 h3]
      go_enter Try.func35, Try.ntmps35
      go_wp2_with fail
      refine HL.mono ?_
      rintro r w1 ⟨rfl, m, rfl⟩
      clear HL
      go_wp2_with fail
      refine (HT.out m).mono ?_
      rintro r w2 ⟨rfl, m', hw2⟩
      have hP := HP.out m m'
      rw [← hw2] at hP
      have HQ : Hid (Rdr 51 w2 d (some ⟨B, off, none⟩) cap xs (a + 1) b ∧ w.grownBy w2 (some d)) := hP
      obtain ⟨q1, q2, q3⟩ := HCell.out w2 hP.1
      clear hP hw2 HP HT HCell
      go_wp2
      go_ret
      exact ⟨rfl, ⟨_, HQ.out.1⟩, HQ.out.2⟩
  · have hv : flV xs a = 0 := by rw [flV, if_neg h1]
    have HE : Hid (endB xs a b = true) := by unfold Hid endB; simp [h1]
    rw [hv, HE.out]
    have hneI : (((xs.length : Nat) : Int) - (a : Nat) != 1) = true := by simp; omega
    clear h hv
    go_enter Try.func35, Try.ntmps35
    go_wp2_with fail
    refine HL.mono ?_
    rintro r w1 ⟨rfl, m, rfl⟩
    have HP : Hid (Rdr 51 ((w.drewN m).setCell ⟨d, 2, none⟩ (.bool true)) d ao cap xs a true ∧ w.grownBy ((w.drewN m).setCell ⟨d, 2, none⟩ (.bool true)) (some d)) := HR.out.mark m
    clear HL
    go_wp2
    go_ret
    exact ⟨rfl, ⟨_, HP.out.1⟩, HP.out.2⟩
end Go.Proofs.Ytdahnooehjdcgaa.rdj
