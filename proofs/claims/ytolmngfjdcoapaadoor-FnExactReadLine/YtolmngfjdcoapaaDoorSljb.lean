/- The job that a line tells: the specification's walk. -/
import Derived.Test.YtolmngfjdcoapaaDoorSljob
namespace Go.Proofs.YtolmngfjdcoapaaDoor.sljob
open Go.ChangeShapes Go.WideShapes Go.ChangeAt Go.RowKit
open Go.Proofs.YtolmngfjdcoapaaDoor.bytes Go.Proofs.YtolmngfjdcoapaaDoor.pile Go.Proofs.YtolmngfjdcoapaaDoor.jhelp Go.Proofs.YtolmngfjdcoapaaDoor.num Go.Proofs.YtolmngfjdcoapaaDoor.phr Go.Proofs.YtolmngfjdcoapaaDoor.swords Go.Proofs.YtolmngfjdcoapaaDoor.jok Go.Proofs.YtolmngfjdcoapaaDoor.sjobs
set_option linter.unusedVariables false
def jobQ (a1 a2 a3 F a5 R : ByteArray) : Option (Int × List Int) :=
  (numS a1.data.toList).bind fun n => (numS a2.data.toList).bind fun c => (numS a3.data.toList).bind fun q => (numS a5.data.toList).bind fun v =>
    if jobB c q F.size v R.size (tx v).size = true then some (n, jobN c q F v R (tx v) false false) else none
theorem long_words {s : ByteArray} (h : (wd 6 s).2.2 = true) (hs : s.size < 4294967281) : ∃ a0 a1 a2 a3 a4 a5 R, wd 6 s = ([a0, a1, a2, a3, a4, a5], R, true) ∧ jobS s = jobQ a1 a2 a3 a4 a5 R ∧ (∀ a ∈ [a0, a1, a2, a3, a4, a5], a.size < 4294967281) ∧ R.size < 4294967281 := by
  obtain ⟨n0, h0, e0⟩ := wd_true h
  obtain ⟨n1, h1, e1⟩ := wd_true h0
  obtain ⟨n2, h2, e2⟩ := wd_true h1
  obtain ⟨n3, h3, e3⟩ := wd_true h2
  obtain ⟨n4, h4, e4⟩ := wd_true h3
  obtain ⟨n5, h5, e5⟩ := wd_true h4
  have q0 := cut_size s
  have q1 := cut_size (cutB s)
  have q2 := cut_size (cutB (cutB s))
  have q3 := cut_size (cutB (cutB (cutB s)))
  have q4 := cut_size (cutB (cutB (cutB (cutB s))))
  have q5 := cut_size (cutB (cutB (cutB (cutB (cutB s)))))
  refine ⟨_, _, _, _, _, _, _, by rw [e0, e1, e2, e3, e4, e5]; rfl, ?_, ?_, ?_⟩
  · unfold jobS
    rw [if_neg n0]
    unfold jobP jobQ
    simp only [if_neg n4]
  · intro a ha
    simp only [List.mem_cons, List.not_mem_nil, or_false] at ha
    rcases ha with rfl | rfl | rfl | rfl | rfl | rfl <;> omega
  · exact Nat.lt_of_le_of_lt q5.2 (by omega)
theorem fin_no {w wr : World} {s : ByteArray} (y0 : wr.heap[w.heap.size]? = some (.cells #[.int .i64 0, .int .i64 0, .slice none 0 0] 24 (0, 0))) (bb : Below w.heap.size w wr) (hj : jobS s = none) : (wr.cell? ⟨w.heap.size, 0, none⟩ = some (.int .i64 0) ∧ wr.cell? ⟨w.heap.size, 1, none⟩ = some (.int .i64 0) ∧ wr.cell? ⟨w.heap.size, 2, none⟩ = some (.slice none 0 0)) ∧ (wr.frozen? ⟨w.heap.size, 0, none⟩ = false ∧ wr.frozen? ⟨w.heap.size, 1, none⟩ = false ∧ wr.frozen? ⟨w.heap.size, 2, none⟩ = false) ∧ ∃ WF, Hid (((wr.setCell ⟨w.heap.size, 0, none⟩ (.int .i64 0)).setCell ⟨w.heap.size, 1, none⟩ (.int .i64 0)).setCell ⟨w.heap.size, 2, none⟩ (.slice none 0 0) = WF) ∧ (WF.cell? ⟨w.heap.size, 0, none⟩ = some (.int .i64 0) ∧ WF.cell? ⟨w.heap.size, 1, none⟩ = some (.int .i64 0) ∧ WF.cell? ⟨w.heap.size, 2, none⟩ = some (.slice none 0 0)) ∧ Hid (SjE w.heap.size s (.returned (.tuple #[.agg #[.int .i64 0, .int .i64 0, .slice none 0 0], .bool false])) WF ∧ Below w.heap.size w WF) := by
  obtain ⟨z1, z2⟩ := st3 y0 (.int .i64 0) (.int .i64 0) (.slice none 0 0)
  exact ⟨⟨cell_of y0 rfl, cell_of y0 rfl, cell_of y0 rfl⟩, ⟨frozen_of y0 0, frozen_of y0 1, frozen_of y0 2⟩, _, rfl, ⟨cell_of z1 rfl, cell_of z1 rfl, cell_of z1 rfl⟩, .inr ⟨hj, rfl⟩, bb.os, bb.tape, bb.output, by simpa using bb.size, fun k hk => (z2 k (by omega)).trans (bb.block k hk)⟩
theorem fin_yes {w wr : World} {s : ByteArray} {n : Int} {xs : List Int} {o : Option Addr} {l k : Nat} {B : Nat} (y0 : wr.heap[w.heap.size]? = some (.cells #[.int .i64 0, .int .i64 0, .slice none 0 0] 24 (0, 0))) (bb : Below w.heap.size w wr) (hj : jobS s = some (n, xs)) (hO : Own wr B (.slice o l k) xs) (hB : w.heap.size < B) : (wr.cell? ⟨w.heap.size, 0, none⟩ = some (.int .i64 0) ∧ wr.cell? ⟨w.heap.size, 1, none⟩ = some (.int .i64 0) ∧ wr.cell? ⟨w.heap.size, 2, none⟩ = some (.slice none 0 0)) ∧ (wr.frozen? ⟨w.heap.size, 0, none⟩ = false ∧ wr.frozen? ⟨w.heap.size, 1, none⟩ = false ∧ wr.frozen? ⟨w.heap.size, 2, none⟩ = false) ∧ ∃ WF, Hid (((wr.setCell ⟨w.heap.size, 0, none⟩ (.int .i64 7)).setCell ⟨w.heap.size, 1, none⟩ (.int .i64 n)).setCell ⟨w.heap.size, 2, none⟩ (.slice o l k) = WF) ∧ (WF.cell? ⟨w.heap.size, 0, none⟩ = some (.int .i64 7) ∧ WF.cell? ⟨w.heap.size, 1, none⟩ = some (.int .i64 n) ∧ WF.cell? ⟨w.heap.size, 2, none⟩ = some (.slice o l k)) ∧ Hid (SjE w.heap.size s (.returned (.tuple #[.agg #[.int .i64 7, .int .i64 n, .slice o l k], .bool true])) WF ∧ Below w.heap.size w WF) := by
  obtain ⟨z1, z2⟩ := st3 y0 (.int .i64 7) (.int .i64 n) (.slice o l k)
  have hO2 := (own_keep hO (fun g hg => z2 g (by have := (hO.lt g hg).1; omega))).mono (show w.heap.size ≤ B by omega)
  exact ⟨⟨cell_of y0 rfl, cell_of y0 rfl, cell_of y0 rfl⟩, ⟨frozen_of y0 0, frozen_of y0 1, frozen_of y0 2⟩, _, rfl, ⟨cell_of z1 rfl, cell_of z1 rfl, cell_of z1 rfl⟩, .inl ⟨n, xs, o, l, k, hj, rfl, hO2⟩, bb.os, bb.tape, bb.output, by simpa using bb.size, fun k hk => (z2 k (by omega)).trans (bb.block k hk)⟩
theorem Q_no {a1 a2 a3 F a5 R : ByteArray} {k : Nat} (hk : k < 4) {a0 : ByteArray} (h : numS ([a0, a1, a2, a3, F, a5].getD (ixN k) emp).data.toList = none) : jobQ a1 a2 a3 F a5 R = none := by
  unfold jobQ
  have c : k = 0 ∨ k = 1 ∨ k = 2 ∨ k = 3 := by omega
  rcases c with rfl | rfl | rfl | rfl
  · have h : numS a1.data.toList = none := h
    rw [h]; rfl
  · have h : numS a2.data.toList = none := h
    rw [h]; cases numS a1.data.toList <;> rfl
  · have h : numS a3.data.toList = none := h
    rw [h]; cases numS a1.data.toList <;> cases numS a2.data.toList <;> rfl
  · have h : numS a5.data.toList = none := h
    rw [h]; cases numS a1.data.toList <;> cases numS a2.data.toList <;> cases numS a3.data.toList <;> rfl
/-- Behind the loop: whether the job is right. -/
theorem behind {w wr : World} {s a0 a1 a2 a3 F a5 R : ByteArray} {g cap : Nat} {ns : List Int} {w1 : World} {gw : Nat} (h : LJ w1 gw [a0, a1, a2, a3, F, a5] g 4 cap ns wr) (hj : jobS s = jobQ a1 a2 a3 F a5 R) (y1 : w1.heap[w.heap.size]? = some (.cells #[.int .i64 0, .int .i64 0, .slice none 0 0] 24 (0, 0))) (bw : Below w.heap.size w w1) (hlt : w.heap.size < w1.heap.size) (hF : F.size < 4294967281) (hR : R.size < 4294967281) :
    ∃ n c q v, ns = [n, c, q, v] ∧ (wr.cell? ⟨g, 0, none⟩ = some (.int .i64 n) ∧ wr.cell? ⟨g, 1, none⟩ = some (.int .i64 c) ∧ wr.cell? ⟨g, 2, none⟩ = some (.int .i64 q) ∧ wr.cell? ⟨g, 3, none⟩ = some (.int .i64 v)) ∧
    ∀ WJ, Hid ((wr.alloc (.cells #[.int .i64 c, .int .i64 q, .string F, .int .i64 v, .string R, .string (tx v), .bool false, .bool false] 50)).drew = WJ) →
    Hid (Calls Tryd.prog 18 #[.agg #[.int .i64 c, .int .i64 q, .string F, .int .i64 v, .string R, .string (tx v), .bool false, .bool false]] WJ fun e w3 =>
      (e = .returned (.bool false) ∧ (w3.cell? ⟨w.heap.size, 0, none⟩ = some (.int .i64 0) ∧ w3.cell? ⟨w.heap.size, 1, none⟩ = some (.int .i64 0) ∧ w3.cell? ⟨w.heap.size, 2, none⟩ = some (.slice none 0 0)) ∧ (w3.frozen? ⟨w.heap.size, 0, none⟩ = false ∧ w3.frozen? ⟨w.heap.size, 1, none⟩ = false ∧ w3.frozen? ⟨w.heap.size, 2, none⟩ = false) ∧ ∃ WF, Hid (((w3.setCell ⟨w.heap.size, 0, none⟩ (.int .i64 0)).setCell ⟨w.heap.size, 1, none⟩ (.int .i64 0)).setCell ⟨w.heap.size, 2, none⟩ (.slice none 0 0) = WF) ∧ (WF.cell? ⟨w.heap.size, 0, none⟩ = some (.int .i64 0) ∧ WF.cell? ⟨w.heap.size, 1, none⟩ = some (.int .i64 0) ∧ WF.cell? ⟨w.heap.size, 2, none⟩ = some (.slice none 0 0)) ∧ Hid (SjE w.heap.size s (.returned (.tuple #[.agg #[.int .i64 0, .int .i64 0, .slice none 0 0], .bool false])) WF ∧ Below w.heap.size w WF)) ∨
      (e = .returned (.bool true) ∧ (w3.cell? ⟨g, 0, none⟩ = some (.int .i64 n)) ∧ w3.heap[wr.heap.size]? = some (.cells #[.int .i64 c, .int .i64 q, .string F, .int .i64 v, .string R, .string (tx v), .bool false, .bool false] 50 (0, 0)) ∧
        Hid (∀ wx, Below w3.heap.size w3 wx → Calls Tryd.prog 19 #[.agg #[.int .i64 c, .int .i64 q, .string F, .int .i64 v, .string R, .string (tx v), .bool false, .bool false]] wx fun e w4 => ∃ (o : Option Addr) (l k : Nat), e = .returned (.slice o l k) ∧ Below w3.heap.size w3 w4 ∧ ((w4.cell? ⟨w.heap.size, 0, none⟩ = some (.int .i64 0) ∧ w4.cell? ⟨w.heap.size, 1, none⟩ = some (.int .i64 0) ∧ w4.cell? ⟨w.heap.size, 2, none⟩ = some (.slice none 0 0)) ∧ (w4.frozen? ⟨w.heap.size, 0, none⟩ = false ∧ w4.frozen? ⟨w.heap.size, 1, none⟩ = false ∧ w4.frozen? ⟨w.heap.size, 2, none⟩ = false) ∧ ∃ WF, Hid (((w4.setCell ⟨w.heap.size, 0, none⟩ (.int .i64 7)).setCell ⟨w.heap.size, 1, none⟩ (.int .i64 n)).setCell ⟨w.heap.size, 2, none⟩ (.slice o l k) = WF) ∧ (WF.cell? ⟨w.heap.size, 0, none⟩ = some (.int .i64 7) ∧ WF.cell? ⟨w.heap.size, 1, none⟩ = some (.int .i64 n) ∧ WF.cell? ⟨w.heap.size, 2, none⟩ = some (.slice o l k)) ∧ Hid (SjE w.heap.size s (.returned (.tuple #[.agg #[.int .i64 7, .int .i64 n, .slice o l k], .bool true])) WF ∧ Below w.heap.size w WF))))) := by
  have hlen := h.len
  obtain ⟨n, c, q, v, rfl⟩ : ∃ n c q v, ns = [n, c, q, v] := by
    match ns, hlen with
    | [n, c, q, v], _ => exact ⟨n, c, q, v, rfl⟩
  have e1 : numS a1.data.toList = some n := h.num 0 (by omega)
  have e2 : numS a2.data.toList = some c := h.num 1 (by omega)
  have e3 : numS a3.data.toList = some q := h.num 2 (by omega)
  have e5 : numS a5.data.toList = some v := h.num 3 (by omega)
  have hjj : jobS s = if jobB c q F.size v R.size (tx v).size = true then some (n, jobN c q F v R (tx v) false false) else none := by
    rw [hj]; unfold jobQ; rw [e1, e2, e3, e5]; rfl
  have hcell : ∀ i, i < 4 → wr.cell? ⟨g, i, none⟩ = ([n, c, q, v].map (Value.int .i64))[i]? := fun i hi => h.own.cellAt i (by omega)
  refine ⟨n, c, q, v, rfl, ⟨hcell 0 (by omega), hcell 1 (by omega), hcell 2 (by omega), hcell 3 (by omega)⟩, ?_⟩
  intro WJ hWJ
  have hWJ := hWJ.out
  have bJ : Below wr.heap.size wr WJ := by rw [← hWJ]; exact (more (Below.refl _ _) _).drew
  have sJ : WJ.heap.size = wr.heap.size + 1 := by rw [← hWJ]; exact World.size_alloc wr _
  have xJ : WJ.heap[wr.heap.size]? = some (.cells #[.int .i64 c, .int .i64 q, .string F, .int .i64 v, .string R, .string (tx v), .bool false, .bool false] 50 (0, 0)) := by rw [← hWJ]; exact heap_alloc_new wr _
  have hbig := h.big
  have hg := (World.ownsRow.lt h.own g rfl)
  have bw1 : Below w.heap.size w wr := bw.trans (h.bel.mono (by omega))
  have hT : (tx v).size ≤ 100 := by unfold tx; split <;> decide
  refine (specOK WJ c q F v R (tx v) false false (by unfold maxLen; omega) (by unfold maxLen; omega) (by unfold maxLen; omega)).mono ?_
  rintro e w3 ⟨rfl, b3⟩
  have y3 : w3.heap[w.heap.size]? = some (.cells #[.int .i64 0, .int .i64 0, .slice none 0 0] 24 (0, 0)) := (b3.block _ (by omega)).trans ((bJ.block _ (by omega)).trans ((h.bel.block _ hlt).trans y1))
  have bw3 : Below w.heap.size w w3 := (bw1.trans (bJ.mono (by omega))).trans (b3.mono (by omega))
  by_cases hb : jobB c q F.size v R.size (tx v).size = true
  · rw [if_pos hb] at hjj
    right
    refine ⟨by rw [hb], ?_, (b3.block _ (by omega)).trans xJ, ?_⟩
    · exact cell_at b3 (cell_at bJ (hcell 0 (by omega)) (Nat.le_refl _)) (Nat.le_refl _)
    · intro wx hx
      refine (specBytesI wx c q F v R (tx v) false false hb).mono ?_
      rintro e w4 ⟨u, rfl, hO, b4⟩
      obtain ⟨o, k, e, _⟩ := hO.rd
      subst e
      have b34 : Below w3.heap.size w3 w4 := hx.trans (b4.mono hx.size)
      have s34 := hx.size
      have s3 := b3.size
      refine ⟨o, _, k, rfl, b34, ?_⟩
      exact fin_yes ((b34.block _ (by omega)).trans y3) (bw3.trans (b34.mono (by omega))) hjj hO (by omega)
  · rw [if_neg hb] at hjj
    left
    exact ⟨by rw [Bool.eq_false_iff.2 hb], fin_no y3 bw3 hjj⟩
end Go.Proofs.YtolmngfjdcoapaaDoor.sljob
