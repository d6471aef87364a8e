/- A line whose first word is job: the program. -/
import Derived.Test.YtolmngfjdcoapaaDoorRev
namespace Go.Proofs.YtolmngfjdcoapaaDoor.rl
open Go.ChangeShapes Go.WideShapes Go.ChangeAt Go.RowKit
open Go.Proofs.YtolmngfjdcoapaaDoor.bytes Go.Proofs.YtolmngfjdcoapaaDoor.pile Go.Proofs.YtolmngfjdcoapaaDoor.jhelp Go.Proofs.YtolmngfjdcoapaaDoor.phr Go.Proofs.YtolmngfjdcoapaaDoor.ew Go.Proofs.YtolmngfjdcoapaaDoor.num
set_option linter.unusedVariables false
/-- The program's answer at a job. -/
def JbR (B : Nat) (s : ByteArray) (e : Ending) (w' : World) : Prop :=
  (∃ n xs o l k, jobP (cutB s) = some (n, xs) ∧ cutA s ≠ emp ∧ e = .returned (.tuple #[.agg #[.int .i64 7, .int .i64 n, .slice o l k], .int .i64 0]) ∧ Own w' B (.slice o l k) xs) ∨
  ((jobP (cutB s) = none ∨ cutA s = emp) ∧ e = .returned (.tuple #[.agg #[.int .i64 0, .int .i64 0, .slice none 0 0], .int .i64 4]))
set_option maxHeartbeats 1600000 in
set_option maxRecDepth 20000 in
theorem job_impl (w : World) (s : ByteArray) (hl : s.size ≤ 65536) (hv : Vr w) (hk : kindOf (cutA s) = some (21, 7)) :
    Calls Tryd.prog 5 #[.string s] w fun e w' => JbR w.heap.size s e w' ∧ Below w.heap.size w w' := by
  obtain ⟨W0, hW0⟩ : ∃ W0, w.alloc (.cells #[.int .i64 0, .int .i64 0, .slice none 0 0] 24) = W0 := ⟨_, rfl⟩
  obtain ⟨W1, hW1⟩ : ∃ W1, W0.alloc (.cells #[.string s, .bool false] 39) = W1 := ⟨_, rfl⟩
  have b0 : Below w.heap.size w W0 := by rw [← hW0]; exact more (Below.refl _ _) _
  have b1 : Below W0.heap.size W0 W1 := by rw [← hW1]; exact more (Below.refl _ _) _
  have s0 : W0.heap.size = w.heap.size + 1 := by rw [← hW0]; exact World.size_alloc ..
  have s1 : W1.heap.size = w.heap.size + 2 := by rw [← hW1, World.size_alloc, s0]
  have x0 : W0.heap[w.heap.size]? = some (.cells #[.int .i64 0, .int .i64 0, .slice none 0 0] 24 (0, 0)) := by rw [← hW0]; exact heap_alloc_new w _
  have x1 : Ph W1 (w.heap.size + 1) s false := by unfold Ph; rw [← hW1, ← s0]; exact heap_alloc_new W0 _
  have y0 := (b1.block w.heap.size (by omega)).trans x0
  have bb : Below w.heap.size w W1 := b0.trans (b1.mono (by omega))
  have HE : Hid (Calls Tryd.prog 13 #[] W1 fun e w2 => e = .returned (.map (some W1.heap.size)) ∧ Hid (Calls Tryd.prog 14 #[.pointer (some ⟨w.heap.size + 1, 0, none⟩)] w2 fun e w3 => e = .returned (.string (cutA s)) ∧ (Instr.lookup 42 (.map (some W1.heap.size)) (.string (cutA s)) true).run Tryd.prog w3 = .ok (.tuple #[.func (.func 21) #[.int .i64 7] #[], .bool true]) w3 ∧ Hid (Calls Tryd.prog 21 #[.int .i64 7, .pointer (some ⟨w.heap.size + 1, 0, none⟩)] w3 fun e w4 => ∃ (v : Int) (o : Option Addr) (l k : Nat) (f : Bool), e = .returned (.agg #[.int .i64 7, .int .i64 v, .slice o l k]) ∧ (w4.alloc (.cells #[.int .i64 7, .int .i64 v, .slice o l k] 24)).cell? ⟨w.heap.size + 1, 1, none⟩ = some (.bool f) ∧ ((w4.alloc (.cells #[.int .i64 7, .int .i64 v, .slice o l k] 24)).cell? ⟨w.heap.size, 0, none⟩ = some (.int .i64 0) ∧ (w4.alloc (.cells #[.int .i64 7, .int .i64 v, .slice o l k] 24)).cell? ⟨w.heap.size, 1, none⟩ = some (.int .i64 0) ∧ (w4.alloc (.cells #[.int .i64 7, .int .i64 v, .slice o l k] 24)).cell? ⟨w.heap.size, 2, none⟩ = some (.slice none 0 0)) ∧ ((w4.alloc (.cells #[.int .i64 7, .int .i64 v, .slice o l k] 24)).frozen? ⟨w.heap.size, 0, none⟩ = false ∧ (w4.alloc (.cells #[.int .i64 7, .int .i64 v, .slice o l k] 24)).frozen? ⟨w.heap.size, 1, none⟩ = false ∧ (w4.alloc (.cells #[.int .i64 7, .int .i64 v, .slice o l k] 24)).frozen? ⟨w.heap.size, 2, none⟩ = false) ∧ ((f = true ∧ ∃ WF, Hid ((((w4.alloc (.cells #[.int .i64 7, .int .i64 v, .slice o l k] 24)).setCell ⟨w.heap.size, 0, none⟩ (.int .i64 0)).setCell ⟨w.heap.size, 1, none⟩ (.int .i64 0)).setCell ⟨w.heap.size, 2, none⟩ (.slice none 0 0) = WF) ∧ (WF.cell? ⟨w.heap.size, 0, none⟩ = some (.int .i64 0) ∧ WF.cell? ⟨w.heap.size, 1, none⟩ = some (.int .i64 0) ∧ WF.cell? ⟨w.heap.size, 2, none⟩ = some (.slice none 0 0)) ∧ Hid (JbR w.heap.size s (.returned (.tuple #[.agg #[.int .i64 0, .int .i64 0, .slice none 0 0], .int .i64 4])) WF ∧ Below w.heap.size w WF)) ∨ (f = false ∧ ∃ WF, Hid ((((w4.alloc (.cells #[.int .i64 7, .int .i64 v, .slice o l k] 24)).setCell ⟨w.heap.size, 0, none⟩ (.int .i64 7)).setCell ⟨w.heap.size, 1, none⟩ (.int .i64 v)).setCell ⟨w.heap.size, 2, none⟩ (.slice o l k) = WF) ∧ (WF.cell? ⟨w.heap.size, 0, none⟩ = some (.int .i64 7) ∧ WF.cell? ⟨w.heap.size, 1, none⟩ = some (.int .i64 v) ∧ WF.cell? ⟨w.heap.size, 2, none⟩ = some (.slice o l k)) ∧ Hid (JbR w.heap.size s (.returned (.tuple #[.agg #[.int .i64 7, .int .i64 v, .slice o l k], .int .i64 0])) WF ∧ Below w.heap.size w WF)))))) := by
    refine (ew_any W1).mono ?_
    rintro e w2 ⟨rfl, o2, b2⟩
    have z2 := b2.size
    refine ⟨rfl, ?_⟩
    refine (word_any w2 (w.heap.size + 1) s false (x1.below b2) (by omega) ((hv.below bb).below b2)).mono ?_
    rintro e w3 ⟨rfl, p3, g3⟩
    have o3 : w3.ownsMap Tryd.prog 9 R W1.heap.size 7 D7 := by
      obtain ⟨es, clock, hb, r⟩ := o2
      have hlt : W1.heap.size < w2.heap.size := (Array.getElem?_eq_some_iff.1 hb).1
      exact ⟨es, clock, (g3.block _ hlt (by simp; omega)).trans hb, r⟩
    obtain ⟨v1, hrun, hvv⟩ := look_any o3 (cutA s) (by have := (cut_size s).1; unfold maxLen; omega)
    rw [hk, hvv 21 7 hk] at hrun
    have y3 : w3.heap[w.heap.size]? = some (.cells #[.int .i64 0, .int .i64 0, .slice none 0 0] 24 (0, 0)) := (g3.block _ (by omega) (by simp)).trans ((b2.block _ (by omega)).trans y0)
    have bw : Below w.heap.size w w3 := (bb.trans (b2.mono (by omega))).trans (grown_bel g3 (by omega) (by omega))
    have z3 := g3.size
    refine ⟨rfl, hrun, ?_⟩
    refine (pevent_any w3 (w.heap.size + 1) 7 (cutB s) _ p3 (by have := (cut_size s).2; omega) (hv.below bw) (by have := hv.size; omega)).mono ?_
    rintro e w4 ⟨v, o, l, k, f, rfl, p4, g4, hn⟩
    have z4 := g4.size
    have b5 : Below w4.heap.size w4 (w4.alloc (.cells #[.int .i64 7, .int .i64 v, .slice o l k] 24)) := more (Below.refl _ _) _
    have p5 := p4.below b5
    have y5 : (w4.alloc (.cells #[.int .i64 7, .int .i64 v, .slice o l k] 24)).heap[w.heap.size]? = some (.cells #[.int .i64 0, .int .i64 0, .slice none 0 0] 24 (0, 0)) := (b5.block _ (by omega)).trans ((g4.block _ (by omega) (by simp)).trans y3)
    have b9 : Below w.heap.size w (w4.alloc (.cells #[.int .i64 7, .int .i64 v, .slice o l k] 24)) := (bw.trans (grown_bel g4 (by omega) (by omega))).trans (b5.mono (by omega))
    refine ⟨v, o, l, k, f, rfl, cell_of p5 rfl, ⟨cell_of y5 rfl, cell_of y5 rfl, cell_of y5 rfl⟩, ⟨frozen_of y5 0, frozen_of y5 1, frozen_of y5 2⟩, ?_⟩
    have fin : ∀ a0 a1 a2 : Value, (((((w4.alloc (.cells #[.int .i64 7, .int .i64 v, .slice o l k] 24)).setCell ⟨w.heap.size, 0, none⟩ a0).setCell ⟨w.heap.size, 1, none⟩ a1).setCell ⟨w.heap.size, 2, none⟩ a2).heap[w.heap.size]? = some (.cells #[a0, a1, a2] 24 (0, 0))) ∧ Below w.heap.size w ((((w4.alloc (.cells #[.int .i64 7, .int .i64 v, .slice o l k] 24)).setCell ⟨w.heap.size, 0, none⟩ a0).setCell ⟨w.heap.size, 1, none⟩ a1).setCell ⟨w.heap.size, 2, none⟩ a2) ∧ (∀ g, g < w4.heap.size → g ≠ w.heap.size → ((((w4.alloc (.cells #[.int .i64 7, .int .i64 v, .slice o l k] 24)).setCell ⟨w.heap.size, 0, none⟩ a0).setCell ⟨w.heap.size, 1, none⟩ a1).setCell ⟨w.heap.size, 2, none⟩ a2).heap[g]? = w4.heap[g]?) := by
      intro a0 a1 a2
      obtain ⟨q1, q2⟩ := st3 y5 a0 a1 a2
      exact ⟨q1, ⟨b9.os, b9.tape, b9.output, by simpa using b9.size, fun k hk => (q2 k (by omega)).trans (b9.block k hk)⟩, fun g hg hne => (q2 g hne).trans (b5.block g hg)⟩
    rcases hn with ⟨xs, h1, h3, h4⟩ | ⟨h1, h3⟩
    · rw [Bool.false_or] at h3
      by_cases he : cutA s = emp
      · rw [decide_eq_true he] at h3
        obtain ⟨q1, q2, _⟩ := fin (.int .i64 0) (.int .i64 0) (.slice none 0 0)
        exact .inl ⟨h3, _, rfl, ⟨cell_of q1 rfl, cell_of q1 rfl, cell_of q1 rfl⟩, .inr ⟨.inr he, rfl⟩, q2⟩
      · rw [decide_eq_false he] at h3
        obtain ⟨q1, q2, q3⟩ := fin (.int .i64 7) (.int .i64 v) (.slice o l k)
        have hO := (own_keep h4 (fun g hg => q3 g (h4.lt g hg).2 (by have := (h4.lt g hg).1; omega))).mono (show w.heap.size ≤ w3.heap.size by omega)
        exact .inr ⟨h3, _, rfl, ⟨cell_of q1 rfl, cell_of q1 rfl, cell_of q1 rfl⟩, .inl ⟨v, xs, o, l, k, h1, he, rfl, hO⟩, q2⟩
    · obtain ⟨q1, q2, _⟩ := fin (.int .i64 0) (.int .i64 0) (.slice none 0 0)
      exact .inl ⟨h3, _, rfl, ⟨cell_of q1 rfl, cell_of q1 rfl, cell_of q1 rfl⟩, .inr ⟨.inl h1, rfl⟩, q2⟩
  obtain ⟨A, hA⟩ : ∃ A, cutA s = A := ⟨_, rfl⟩
  rw [hA] at HE
  have HW1 : Hid (W0.alloc (.cells #[.string s, .bool false] 39) = W1) := hW1
  clear b0 b1 x0 x1 y0 bb hv hk hA hW1 s1
  go_enter Tryd.func5, Tryd.ntmps5
  go_wp2_with fail
  (try rw [hW0])
  rw [HW1.out]
  refine HE.out.mono ?_
  rintro e w2 ⟨rfl, HC⟩
  clear HE hW0 HW1
  go_wp2_with fail
  refine HC.out.mono ?_
  rintro e w3 ⟨rfl, hrun, HN⟩
  clear HC
  go_wp2_with fail
  refine HN.out.mono ?_
  rintro e w4 ⟨v, o, l, k, f, rfl, hf, ⟨d0, d1, d2⟩, ⟨f0, f1, f2⟩, ⟨rfl, WF, hWF, ⟨k0, k1, k2⟩, HF⟩ | ⟨rfl, WF, hWF, ⟨k0, k1, k2⟩, HF⟩⟩
  · clear HN
    go_wp2
    rw [hWF.out]
    refine bodyPost_ret (v := .tuple #[.agg #[.int .i64 0, .int .i64 0, .slice none 0 0], .int .i64 4]) ?_ rfl HF.out
    simp [results, Tryd.results5, go_sem, k0, k1, k2]
  · clear HN
    go_wp2
    rw [hWF.out]
    refine bodyPost_ret (v := .tuple #[.agg #[.int .i64 7, .int .i64 v, .slice o l k], .int .i64 0]) ?_ rfl HF.out
    simp [results, Tryd.results5, go_sem, k0, k1, k2]
end Go.Proofs.YtolmngfjdcoapaaDoor.rl
