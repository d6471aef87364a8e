/- The job that a line tells: the specification's side. -/
import Derived.Test.YtolmngfjdcoapaaDoorSwords
import Derived.Test.YtolmngfjdcoapaaDoorSplace
import Derived.Test.YtolmngfjdcoapaaDoorPjob
import Derived.BigRegion
namespace Go.Proofs.YtolmngfjdcoapaaDoor.sljob
open Go.ChangeShapes Go.WideShapes Go.ChangeAt Go.RowKit
open Go.Proofs.YtolmngfjdcoapaaDoor.bytes Go.Proofs.YtolmngfjdcoapaaDoor.pile Go.Proofs.YtolmngfjdcoapaaDoor.jhelp Go.Proofs.YtolmngfjdcoapaaDoor.num Go.Proofs.YtolmngfjdcoapaaDoor.phr Go.Proofs.YtolmngfjdcoapaaDoor.swords
set_option linter.unusedVariables false
theorem num_ne {a : ByteArray} {n : Int} (h : numS a.data.toList = some n) : a ≠ emp := by
  rintro rfl
  have : numS emp.data.toList = none := numS_nil
  rw [this] at h
  cases h
theorem wd_true {n : Nat} {s : ByteArray} (h : (wd (n + 1) s).2.2 = true) : cutA s ≠ emp ∧ (wd n (cutB s)).2.2 = true ∧ wd (n + 1) s = (cutA s :: (wd n (cutB s)).1, (wd n (cutB s)).2) := by
  rw [wd] at h ⊢
  by_cases he : cutA s = emp
  · rw [if_pos he] at h; cases h
  · rw [if_neg he] at h ⊢
    exact ⟨he, h, rfl⟩
theorem wd_more {n : Nat} {s : ByteArray} (h : cutA s ≠ emp) : wd (n + 1) s = (cutA s :: (wd n (cutB s)).1, (wd n (cutB s)).2) := by rw [wd, if_neg h]
/-- The job of a line by its words. -/
def jobS (s : ByteArray) : Option (Int × List Int) := if cutA s = emp then none else jobP (cutB s)
theorem jobP_words {t : ByteArray} {r : Int × List Int} (h : jobP t = some r) : cutA t ≠ emp ∧ cutA (cutB t) ≠ emp ∧ cutA (cutB (cutB t)) ≠ emp ∧ cutA (cutB (cutB (cutB t))) ≠ emp ∧ cutA (cutB (cutB (cutB (cutB t)))) ≠ emp := by
  unfold jobP at h
  cases h1 : numS (cutA t).data.toList with
  | none => rw [h1] at h; cases h
  | some n =>
  cases h2 : numS (cutA (cutB t)).data.toList with
  | none => rw [h1, h2] at h; cases h
  | some c =>
  cases h3 : numS (cutA (cutB (cutB t))).data.toList with
  | none => rw [h1, h2, h3] at h; cases h
  | some q =>
  rw [h1, h2, h3] at h
  dsimp only [Option.bind_some] at h
  by_cases h4 : cutA (cutB (cutB (cutB t))) = emp
  · rw [if_pos h4] at h; cases h
  · rw [if_neg h4] at h
    cases h5 : numS (cutA (cutB (cutB (cutB (cutB t))))).data.toList with
    | none => rw [h5] at h; cases h
    | some v => exact ⟨num_ne h1, num_ne h2, num_ne h3, h4, num_ne h5⟩
theorem jobS_words {s : ByteArray} {r : Int × List Int} (h : jobS s = some r) : (wd 6 s).2.2 = true := by
  unfold jobS at h
  by_cases h0 : cutA s = emp
  · rw [if_pos h0] at h; cases h
  · rw [if_neg h0] at h
    obtain ⟨h1, h2, h3, h4, h5⟩ := jobP_words h
    rw [wd_more h0, wd_more h1, wd_more h2, wd_more h3, wd_more h4, wd_more h5]
    rfl
theorem jobS_short {s : ByteArray} (h : (wd 6 s).2.2 = false) : jobS s = none := by
  cases hj : jobS s with
  | none => rfl
  | some r => rw [jobS_words hj] at h; cases h
/-- The specification's answer. -/
def SjE (B : Nat) (s : ByteArray) (e : Ending) (w' : World) : Prop :=
  (∃ n xs o l k, jobS s = some (n, xs) ∧ e = .returned (.tuple #[.agg #[.int .i64 7, .int .i64 n, .slice o l k], .bool true]) ∧ Own w' B (.slice o l k) xs) ∨
  (jobS s = none ∧ e = .returned (.tuple #[.agg #[.int .i64 0, .int .i64 0, .slice none 0 0], .bool false]))
def ixN (k : Nat) : Nat := if k = 3 then 5 else k + 1
theorem info3 : (Tryd.prog.info? 3).map (fun i => (i.zero, i.size, i.bytes)) = some (some (.int .i64 0), 1, 8) := by kernel_rfl
/-- Where the loop is: the numbers read so far. -/
structure LJ (w1 : World) (gw : Nat) (ws : List ByteArray) (g j cap : Nat) (ns : List Int) (wr : World) : Prop where
  len : ns.length = j
  num : ∀ i, i < j → numS (ws.getD (ixN i) emp).data.toList = some (ns.getD i 0)
  own : wr.ownsRow w1.heap.size 3 1 (.slice (some ⟨g, 0, none⟩) j cap) j (ns.map (Value.int .i64))
  off : g ≠ w1.heap.size + 1
  big : w1.heap.size + 2 ≤ wr.heap.size
  bel : Below w1.heap.size w1 wr
  ix : wr.heap[w1.heap.size + 1]? = some (.cells #[.int .i64 1, .int .i64 2, .int .i64 3, .int .i64 5] 3 (0, 0))
theorem LJ.step {w1 : World} {gw : Nat} {ws : List ByteArray} {g j cap : Nat} {ns : List Int} {wr : World} (h : LJ w1 gw ws g j cap ns wr) {n : Int} (hn : numS (ws.getD (ixN j) emp).data.toList = some n) {o : Obj} {g' cap' : Nat} {w2 : World}
    (ho : w2.ownsRow w1.heap.size 3 1 (.slice (some ⟨g', 0, none⟩) (j + 1) cap') (j + 1) (ns.map (Value.int .i64) ++ [.int .i64 n])) (hg : (wr.alloc o).grownBy w2 (some g)) (hl : some g = some g' ∨ g' = wr.heap.size + 1) : LJ w1 gw ws g' (j + 1) cap' (ns ++ [n]) w2 := by
  have hlen := h.len
  have hbig := h.big
  have hgw := (World.ownsRow.lt h.own g rfl)
  have hsz : (wr.alloc o).heap.size = wr.heap.size + 1 := World.size_alloc ..
  have hgs := hg.size
  refine ⟨by simp [hlen], ?_, by simpa using ho, ?_, by omega, ?_, ?_⟩
  · intro i hi
    by_cases e : i = j
    · subst e
      rw [hn]
      congr 1
      simp [List.getD_eq_getElem?_getD, ← hlen]
    · rw [h.num i (by omega)]
      congr 1
      simp only [List.getD_eq_getElem?_getD]
      rw [List.getElem?_append_left (by omega)]
  · have := h.off
    rcases hl with hl | hl
    · have := Option.some.inj hl; omega
    · omega
  · have hb := h.bel
    exact ⟨hg.os.trans hb.os, hg.tape.trans hb.tape, hg.output.trans hb.output, by omega, fun k hk => (hg.block k (by omega) (by simp; omega)).trans (((World.grownBy_alloc wr o none).block k (by omega) (by simp)).trans (hb.block k hk))⟩
  · have := h.off
    rw [hg.block _ (by omega) (by simp; omega), (World.grownBy_alloc wr o none).block _ (by omega) (by simp)]
    exact h.ix
set_option maxHeartbeats 1600000 in
theorem ljob_short (w : World) (s : ByteArray) (hs : s.size < 4294967281) (h : (wd 6 s).2.2 = false) :
    Calls Tryd.prog 10 #[.string s] w fun e w' => SjE w.heap.size s e w' ∧ Below w.heap.size w w' := by
  obtain ⟨W0, hW0⟩ : ∃ W0, w.alloc (.cells #[.int .i64 0, .int .i64 0, .slice none 0 0] 24) = W0 := ⟨_, rfl⟩
  have b0 : Below w.heap.size w W0 := by rw [← hW0]; exact more (Below.refl _ _) _
  have s0 : W0.heap.size = w.heap.size + 1 := by rw [← hW0]; exact World.size_alloc ..
  have x0 : W0.heap[w.heap.size]? = some (.cells #[.int .i64 0, .int .i64 0, .slice none 0 0] 24 (0, 0)) := by rw [← hW0]; exact heap_alloc_new w _
  have HE : Hid (Calls Tryd.prog 9 #[.string s, .int .i64 6] W0 fun e w1 => ∃ v r, e = .returned (.tuple #[v, .string r, .bool false]) ∧ (w1.cell? ⟨w.heap.size, 0, none⟩ = some (.int .i64 0) ∧ w1.cell? ⟨w.heap.size, 1, none⟩ = some (.int .i64 0) ∧ w1.cell? ⟨w.heap.size, 2, none⟩ = some (.slice none 0 0)) ∧ (w1.frozen? ⟨w.heap.size, 0, none⟩ = false ∧ w1.frozen? ⟨w.heap.size, 1, none⟩ = false ∧ w1.frozen? ⟨w.heap.size, 2, none⟩ = false) ∧ ∃ WF, Hid (((w1.setCell ⟨w.heap.size, 0, none⟩ (.int .i64 0)).setCell ⟨w.heap.size, 1, none⟩ (.int .i64 0)).setCell ⟨w.heap.size, 2, none⟩ (.slice none 0 0) = WF) ∧ (WF.cell? ⟨w.heap.size, 0, none⟩ = some (.int .i64 0) ∧ WF.cell? ⟨w.heap.size, 1, none⟩ = some (.int .i64 0) ∧ WF.cell? ⟨w.heap.size, 2, none⟩ = some (.slice none 0 0)) ∧ Hid (SjE w.heap.size s (.returned (.tuple #[.agg #[.int .i64 0, .int .i64 0, .slice none 0 0], .bool false])) WF ∧ Below w.heap.size w WF)) := by
    refine (words_any W0 s 6 (by omega) hs).mono ?_
    rintro e w1 ⟨v, rfl, _, b1⟩
    have y0 := (b1.block w.heap.size (by omega)).trans x0
    obtain ⟨z1, z2⟩ := st3 y0 (.int .i64 0) (.int .i64 0) (.slice none 0 0)
    refine ⟨v, _, by rw [h], ⟨cell_of y0 rfl, cell_of y0 rfl, cell_of y0 rfl⟩, ⟨frozen_of y0 0, frozen_of y0 1, frozen_of y0 2⟩, _, rfl, ⟨cell_of z1 rfl, cell_of z1 rfl, cell_of z1 rfl⟩, .inr ⟨jobS_short h, rfl⟩, ?_⟩
    have bb : Below w.heap.size w w1 := b0.trans (b1.mono (by omega))
    exact ⟨bb.os, bb.tape, bb.output, by simpa using bb.size, fun k hk => (z2 k (by omega)).trans (bb.block k hk)⟩
  clear h b0 s0 x0
  go_enter Tryd.func10, Tryd.ntmps10
  go_wp2_with fail
  (try rw [hW0])
  refine HE.out.mono ?_
  rintro e w1 ⟨v, r, rfl, ⟨d0, d1, d2⟩, ⟨f0, f1, f2⟩, WF, hWF, ⟨k0, k1, k2⟩, HF⟩
  clear HE hW0
  go_wp2
  rw [hWF.out]
  refine bodyPost_ret (v := .tuple #[.agg #[.int .i64 0, .int .i64 0, .slice none 0 0], .bool false]) ?_ rfl HF.out
  simp [results, Tryd.results10, go_sem, k0, k1, k2]
end Go.Proofs.YtolmngfjdcoapaaDoor.sljob
