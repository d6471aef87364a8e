/- A line that is read: what both sides answer; the specification. -/
import Derived.Test.YtolmngfjdcoapaaDoorSljw
import Derived.Test.YtolmngfjdcoapaaDoorRjb
import Derived.Test.YtolmngfjdcoapaaDoorLong
namespace Go.Proofs.YtolmngfjdcoapaaDoor.srl
open Go.ChangeShapes Go.WideShapes Go.ChangeAt Go.RowKit
open Go.Proofs.YtolmngfjdcoapaaDoor.bytes Go.Proofs.YtolmngfjdcoapaaDoor.pile Go.Proofs.YtolmngfjdcoapaaDoor.jhelp Go.Proofs.YtolmngfjdcoapaaDoor.num Go.Proofs.YtolmngfjdcoapaaDoor.phr Go.Proofs.YtolmngfjdcoapaaDoor.swords Go.Proofs.YtolmngfjdcoapaaDoor.sljob Go.Proofs.YtolmngfjdcoapaaDoor.ew Go.Proofs.YtolmngfjdcoapaaDoor.rl Go.Proofs.YtolmngfjdcoapaaDoor.splace
set_option linter.unusedVariables false
/-- The event of a line. -/
def rlS (s : ByteArray) : Option (Int × Int × List Int) :=
  if cutA s = emp then none else
    match kindOf (cutA s) with
    | none => none
    | some (f, k) => if f = 21 then (jobP (cutB s)).map fun r => (7, r.1, r.2) else if cutB (cutB s) = emp then (numS (cutA (cutB s)).data.toList).map fun v => (k, v, []) else none
/-- What is answered to a line. -/
def rlA (s : ByteArray) : Int × Int × List Int × Int :=
  if 65536 < s.size then (0, 0, [], 2) else
    match rlS s with
    | some (k, n, xs) => (k, n, xs, 0)
    | none => (0, 0, [], 4)
def Ans (B : Nat) (s : ByteArray) (e : Ending) (w' : World) : Prop :=
  ∃ o l c, e = .returned (.tuple #[.agg #[.int .i64 (rlA s).1, .int .i64 (rlA s).2.1, .slice o l c], .int .i64 (rlA s).2.2.2]) ∧ Own w' B (.slice o l c) (rlA s).2.2.1
theorem own_nil (w : World) (B : Nat) : Own w B (.slice none 0 0) [] := ⟨by simp, rfl, .inl ⟨rfl, rfl⟩⟩
theorem ans_no {B : Nat} {s : ByteArray} {w' : World} (hl : ¬ 65536 < s.size) (h : rlS s = none) : Ans B s (.returned (.tuple #[.agg #[.int .i64 0, .int .i64 0, .slice none 0 0], .int .i64 4])) w' := by
  unfold Ans rlA
  rw [if_neg hl, h]
  exact ⟨_, _, _, rfl, own_nil _ _⟩
theorem ans_yes {B : Nat} {s : ByteArray} {w' : World} {k n : Int} {xs : List Int} {o : Option Addr} {l c : Nat} (hl : ¬ 65536 < s.size) (h : rlS s = some (k, n, xs)) (hO : Own w' B (.slice o l c) xs) : Ans B s (.returned (.tuple #[.agg #[.int .i64 k, .int .i64 n, .slice o l c], .int .i64 0])) w' := by
  unfold Ans rlA
  rw [if_neg hl, h]
  exact ⟨_, _, _, rfl, hO⟩
theorem ans_long {B : Nat} {s : ByteArray} {w' : World} (hl : 65536 < s.size) : Ans B s (.returned (.tuple #[.agg #[.int .i64 0, .int .i64 0, .slice none 0 0], .int .i64 2])) w' := by
  unfold Ans rlA
  rw [if_pos hl]
  exact ⟨_, _, _, rfl, own_nil _ _⟩
theorem kind_cases (A : ByteArray) : kindOf A = none ∨ kindOf A = some (21, 7) ∨ ∃ k, kindOf A = some (20, k) := by
  unfold kindOf
  by_cases h7 : A = N7
  · rw [if_pos h7]; exact .inr (.inl rfl)
  rw [if_neg h7]
  by_cases h6 : A = N6
  · rw [if_pos h6]; exact .inr (.inr ⟨_, rfl⟩)
  rw [if_neg h6]
  by_cases h5 : A = N5
  · rw [if_pos h5]; exact .inr (.inr ⟨_, rfl⟩)
  rw [if_neg h5]
  by_cases h4 : A = N4
  · rw [if_pos h4]; exact .inr (.inr ⟨_, rfl⟩)
  rw [if_neg h4]
  by_cases h3 : A = N3
  · rw [if_pos h3]; exact .inr (.inr ⟨_, rfl⟩)
  rw [if_neg h3]
  by_cases h2 : A = N2
  · rw [if_pos h2]; exact .inr (.inr ⟨_, rfl⟩)
  rw [if_neg h2]
  by_cases h1 : A = N1
  · rw [if_pos h1]; exact .inr (.inr ⟨_, rfl⟩)
  rw [if_neg h1]
  exact .inl rfl
/-- The program. -/
theorem impl_any (w : World) (s : ByteArray) (hs : s.size < 4294967281) (hv : Vr w) : Calls Tryd.prog 5 #[.string s] w fun e w' => Ans w.heap.size s e w' ∧ Below w.heap.size w w' := by
  by_cases hl : 65536 < s.size
  · refine (long_impl w s hl hs).mono ?_
    rintro e w' ⟨rfl, b⟩
    exact ⟨ans_long hl, b⟩
  · rcases kind_cases (cutA s) with hk | hk | ⟨k, hk⟩
    · refine (none_impl w s (by omega) hv hk).mono ?_
      rintro e w' ⟨rfl, b⟩
      refine ⟨ans_no hl ?_, b⟩
      unfold rlS
      split
      · rfl
      · rw [hk]
    · refine (job_impl w s (by omega) hv hk).mono ?_
      rintro e w' ⟨⟨n, xs, o, l, c, hj, ha, rfl, hO⟩ | ⟨hj, rfl⟩, b⟩
      · refine ⟨ans_yes hl ?_ hO, b⟩
        unfold rlS
        rw [if_neg ha, hk]
        dsimp only
        rw [if_pos rfl, hj]
        rfl
      · refine ⟨ans_no hl ?_, b⟩
        unfold rlS
        split
        · rfl
        · rename_i ha
          rw [hk]
          dsimp only
          rw [if_pos rfl]
          rcases hj with hj | hj
          · rw [hj]; rfl
          · exact absurd hj ha
    · refine (event_impl w s (by omega) hv k hk).mono ?_
      rintro e w' ⟨⟨v, h1, h2, ha, rfl⟩ | ⟨h1, rfl⟩, b⟩
      · refine ⟨ans_yes hl ?_ (own_nil _ _), b⟩
        unfold rlS
        rw [if_neg ha, hk]
        dsimp only
        rw [if_neg (by decide), if_pos h2, h1]
        rfl
      · refine ⟨ans_no hl ?_, b⟩
        unfold rlS
        split
        · rfl
        · rename_i ha
          rw [hk]
          dsimp only
          rw [if_neg (by decide)]
          split
          · rename_i hb
            rcases h1 with h1 | h1 | h1
            · rw [h1]; rfl
            · exact absurd hb h1
            · exact absurd h1 ha
          · rfl
theorem fin3 {w wr : World} (y0 : wr.heap[w.heap.size]? = some (.cells #[.int .i64 0, .int .i64 0, .slice none 0 0] 24 (0, 0))) (bb : Below w.heap.size w wr) (a0 a1 a2 : Value) : (wr.cell? ⟨w.heap.size, 0, none⟩ = some (.int .i64 0) ∧ wr.cell? ⟨w.heap.size, 1, none⟩ = some (.int .i64 0) ∧ wr.cell? ⟨w.heap.size, 2, none⟩ = some (.slice none 0 0)) ∧ (wr.frozen? ⟨w.heap.size, 0, none⟩ = false ∧ wr.frozen? ⟨w.heap.size, 1, none⟩ = false ∧ wr.frozen? ⟨w.heap.size, 2, none⟩ = false) ∧ ∃ WF, Hid (((wr.setCell ⟨w.heap.size, 0, none⟩ (a0)).setCell ⟨w.heap.size, 1, none⟩ (a1)).setCell ⟨w.heap.size, 2, none⟩ (a2) = WF) ∧ (WF.cell? ⟨w.heap.size, 0, none⟩ = some (a0) ∧ WF.cell? ⟨w.heap.size, 1, none⟩ = some (a1) ∧ WF.cell? ⟨w.heap.size, 2, none⟩ = some (a2)) ∧ Hid (Below w.heap.size w WF ∧ ∀ g, g ≠ w.heap.size → WF.heap[g]? = wr.heap[g]?) := by
  obtain ⟨z1, z2⟩ := st3 y0 a0 a1 a2
  exact ⟨⟨cell_of y0 rfl, cell_of y0 rfl, cell_of y0 rfl⟩, ⟨frozen_of y0 0, frozen_of y0 1, frozen_of y0 2⟩, _, rfl, ⟨cell_of z1 rfl, cell_of z1 rfl, cell_of z1 rfl⟩, ⟨bb.os, bb.tape, bb.output, by simpa using bb.size, fun k hk => (z2 k (by omega)).trans (bb.block k hk)⟩, z2⟩
theorem post_no {w wr : World} {s : ByteArray} (hl : ¬ 65536 < s.size) (h : rlS s = none) (y0 : wr.heap[w.heap.size]? = some (.cells #[.int .i64 0, .int .i64 0, .slice none 0 0] 24 (0, 0))) (bb : Below w.heap.size w wr) : ((wr.cell? ⟨w.heap.size, 0, none⟩ = some (.int .i64 0) ∧ wr.cell? ⟨w.heap.size, 1, none⟩ = some (.int .i64 0) ∧ wr.cell? ⟨w.heap.size, 2, none⟩ = some (.slice none 0 0)) ∧ (wr.frozen? ⟨w.heap.size, 0, none⟩ = false ∧ wr.frozen? ⟨w.heap.size, 1, none⟩ = false ∧ wr.frozen? ⟨w.heap.size, 2, none⟩ = false) ∧ ∃ WF, Hid (((wr.setCell ⟨w.heap.size, 0, none⟩ (.int .i64 0)).setCell ⟨w.heap.size, 1, none⟩ (.int .i64 0)).setCell ⟨w.heap.size, 2, none⟩ (.slice none 0 0) = WF) ∧ (WF.cell? ⟨w.heap.size, 0, none⟩ = some (.int .i64 0) ∧ WF.cell? ⟨w.heap.size, 1, none⟩ = some (.int .i64 0) ∧ WF.cell? ⟨w.heap.size, 2, none⟩ = some (.slice none 0 0)) ∧ Hid (Ans w.heap.size s (.returned (.tuple #[.agg #[.int .i64 0, .int .i64 0, .slice none 0 0], .int .i64 4])) WF ∧ Below w.heap.size w WF)) := by
  obtain ⟨h1, h2, WF, h3, h4, h5⟩ := fin3 y0 bb (.int .i64 0) (.int .i64 0) (.slice none 0 0)
  exact ⟨h1, h2, WF, h3, h4, ans_no hl h, h5.out.1⟩
theorem post_yes {w wr : World} {s : ByteArray} {kk n : Int} {xs : List Int} {o : Option Addr} {l c : Nat} {B : Nat} (hl : ¬ 65536 < s.size) (h : rlS s = some (kk, n, xs)) (y0 : wr.heap[w.heap.size]? = some (.cells #[.int .i64 0, .int .i64 0, .slice none 0 0] 24 (0, 0))) (bb : Below w.heap.size w wr) (hO : Own wr B (.slice o l c) xs) (hB : w.heap.size < B) : ((wr.cell? ⟨w.heap.size, 0, none⟩ = some (.int .i64 0) ∧ wr.cell? ⟨w.heap.size, 1, none⟩ = some (.int .i64 0) ∧ wr.cell? ⟨w.heap.size, 2, none⟩ = some (.slice none 0 0)) ∧ (wr.frozen? ⟨w.heap.size, 0, none⟩ = false ∧ wr.frozen? ⟨w.heap.size, 1, none⟩ = false ∧ wr.frozen? ⟨w.heap.size, 2, none⟩ = false) ∧ ∃ WF, Hid (((wr.setCell ⟨w.heap.size, 0, none⟩ (.int .i64 kk)).setCell ⟨w.heap.size, 1, none⟩ (.int .i64 n)).setCell ⟨w.heap.size, 2, none⟩ (.slice o l c) = WF) ∧ (WF.cell? ⟨w.heap.size, 0, none⟩ = some (.int .i64 kk) ∧ WF.cell? ⟨w.heap.size, 1, none⟩ = some (.int .i64 n) ∧ WF.cell? ⟨w.heap.size, 2, none⟩ = some (.slice o l c)) ∧ Hid (Ans w.heap.size s (.returned (.tuple #[.agg #[.int .i64 kk, .int .i64 n, .slice o l c], .int .i64 0])) WF ∧ Below w.heap.size w WF)) := by
  obtain ⟨h1, h2, WF, h3, h4, h5⟩ := fin3 y0 bb (.int .i64 kk) (.int .i64 n) (.slice o l c)
  exact ⟨h1, h2, WF, h3, h4, ans_yes hl h ((own_keep hO (fun g hg => h5.out.2 g (by have := (hO.lt g hg).1; omega))).mono (by omega)), h5.out.1⟩
/-- Words that are missing. -/
theorem short_no {s : ByteArray} (h : (wd 2 s).2.2 = false) : rlS s = none := by
  unfold rlS
  split
  · rfl
  · rename_i ha
    have hb : cutA (cutB s) = emp := by
      by_cases hb : cutA (cutB s) = emp
      · exact hb
      · rw [wd_more ha, wd_more hb] at h
        cases h
    have hn : numS (cutA (cutB s)).data.toList = none := by rw [hb]; exact numS_nil
    rcases kind_cases (cutA s) with hk | hk | ⟨k, hk⟩
    · rw [hk]
    · rw [hk]
      dsimp only
      rw [if_pos rfl]
      unfold jobP
      rw [hn]
      rfl
    · rw [hk]
      dsimp only
      rw [if_neg (by decide), hn]
      split <;> rfl
def names : List ByteArray := [emp, N1, N2, N3, N4, N5, N6]
/-- Where a word stands among the names. -/
theorem place_kind {a : ByteArray} (h0 : a ≠ emp) (h7 : a ≠ N7) : (kindOf a = none ∧ place a 0 names = -1) ∨ ∃ k, kindOf a = some (20, k) ∧ place a 0 names = k ∧ 1 ≤ k := by
  by_cases h1 : a = N1
  · subst h1; exact .inr ⟨1, by decide, by decide, by decide⟩
  by_cases h2 : a = N2
  · subst h2; exact .inr ⟨2, by decide, by decide, by decide⟩
  by_cases h3 : a = N3
  · subst h3; exact .inr ⟨3, by decide, by decide, by decide⟩
  by_cases h4 : a = N4
  · subst h4; exact .inr ⟨4, by decide, by decide, by decide⟩
  by_cases h5 : a = N5
  · subst h5; exact .inr ⟨5, by decide, by decide, by decide⟩
  by_cases h6 : a = N6
  · subst h6; exact .inr ⟨6, by decide, by decide, by decide⟩
  have e : ∀ (x : ByteArray) (k : Nat) (r : List ByteArray), x ≠ a → place a k (x :: r) = place a (k + 1) r := fun x k r hx => by rw [place, if_neg hx]
  left
  constructor
  · unfold kindOf
    rw [if_neg h7, if_neg h6, if_neg h5, if_neg h4, if_neg h3, if_neg h2, if_neg h1]
  · unfold names
    rw [e _ _ _ (Ne.symm h0), e _ _ _ (Ne.symm h1), e _ _ _ (Ne.symm h2), e _ _ _ (Ne.symm h3), e _ _ _ (Ne.symm h4), e _ _ _ (Ne.symm h5), e _ _ _ (Ne.symm h6)]
    rfl
end Go.Proofs.YtolmngfjdcoapaaDoor.srl
