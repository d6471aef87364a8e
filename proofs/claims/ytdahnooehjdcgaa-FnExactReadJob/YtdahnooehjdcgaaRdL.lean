/- What ReadJob says of bytes; impl's ReadJob says it. -/
import Derived.Test.YtdahnooehjdcgaaRdK
namespace Go.Proofs.Ytdahnooehjdcgaa.rdl
open Go.ChangeShapes Go.WideShapes Go.ChangeAt Go.RowKit
open Go.Proofs.Ytdahnooehjdcgaa.bytes Go.Proofs.Ytdahnooehjdcgaa.pile Go.Proofs.Ytdahnooehjdcgaa.get Go.Proofs.Ytdahnooehjdcgaa.dec Go.Proofs.Ytdahnooehjdcgaa.jhelp Go.Proofs.Ytdahnooehjdcgaa.read Go.Proofs.Ytdahnooehjdcgaa.rdi Go.Proofs.Ytdahnooehjdcgaa.rdj Go.Proofs.Ytdahnooehjdcgaa.rdk Go.Proofs.Ytdahnooehjdcgaa.jok
set_option linter.unusedVariables false

/-- The job of bytes that are some's. -/
def rightJ (xs : List Int) : Bool := jobB (jI xs).c (jI xs).s (jI xs).F.size (jI xs).v (jI xs).S.size (jI xs).T.size
def zeroJ : Value := .agg #[.int .i64 0, .int .i64 0, .string ⟨#[]⟩, .int .i64 0, .string ⟨#[]⟩, .string ⟨#[]⟩, .bool false, .bool false]
/-- What ReadJob says of bytes, and its code. -/
def readV (xs : List Int) : Value :=
  if 65536 < xs.length then zeroJ else if badJ xs = true then zeroJ else if rightJ xs = true then jobV (jI xs) (flV xs (jI xs).a) else zeroJ
def readC (xs : List Int) : Int :=
  if 65536 < xs.length then 2 else if badJ xs = true then 3 else if rightJ xs = true then 0 else 1
theorem read_long {xs : List Int} (h : 65536 < xs.length) : readV xs = zeroJ ∧ readC xs = 2 := by simp [readV, readC, h]
theorem read_bad {xs : List Int} (h : ¬ 65536 < xs.length) (hb : badJ xs = true) : readV xs = zeroJ ∧ readC xs = 3 := by simp [readV, readC, h, hb]
theorem read_wrong {xs : List Int} (h : ¬ 65536 < xs.length) (hb : badJ xs = false) (hr : rightJ xs = false) : readV xs = zeroJ ∧ readC xs = 1 := by simp [readV, readC, h, hb, hr]
theorem read_right {xs : List Int} (h : ¬ 65536 < xs.length) (hb : badJ xs = false) (hr : rightJ xs = true) : readV xs = jobV (jI xs) (flV xs (jI xs).a) ∧ readC xs = 0 := by simp [readV, readC, h, hb, hr]

theorem tI_size {xs : List Int} {a : Nat} {b : Bool} : (tI xs a b).1.size ≤ xs.length := by
  by_cases h : (xs.length : Int) - (vI xs a b).2.1 < (vI xs a b).1
  · rw [tI_long h]; simp [ByteArray.size]
  · rw [tI_fits h]
    simp only [strOf_size, List.length_take, List.length_drop]
    omega
theorem jI_sizes (xs : List Int) : (jI xs).F.size ≤ xs.length ∧ (jI xs).S.size ≤ xs.length ∧ (jI xs).T.size ≤ xs.length := by
  unfold jI
  simp only
  refine ⟨?_, ?_, ?_⟩ <;> exact tI_size

set_option maxRecDepth 20000 in
set_option maxHeartbeats 6400000 in
theorem implRead (w : World) (ao : Option Addr) (cap : Nat) (xs : List Int) (h : RdA w (.slice ao xs.length cap) xs) :
    Calls Try.prog 14 #[.slice ao xs.length cap] w fun r w' => r = .returned (.tuple #[readV xs, .int .i64 (readC xs)]) ∧ Below w.heap.size w w' := by
  have hcb : xs.length ≤ maxLen := by
    obtain ⟨⟨ao', cap', e, h1, h2, _⟩, _⟩ := h
    simp only [Value.slice.injEq, true_and] at e
    omega
  unfold maxLen at hcb
  by_cases hl : 65536 < xs.length
  · rw [(read_long hl).1, (read_long hl).2]
    have hli : (65536 : Int) < xs.length := by omega
    have HB : Hid (∀ o, Below w.heap.size w (w.alloc o)) := fun o => (Below.refl _ _).alloc (Nat.le_refl _) _
    go_enter Try.func14, Try.ntmps14
    go_wp2
    exact bodyPost_ret (v := .tuple #[zeroJ, .int .i64 2]) (by simp [results, Try.results14, go_sem, zeroJ]) rfl ⟨rfl, HB.out _⟩
  have hli : ¬ (65536 : Int) < xs.length := by omega
  obtain ⟨W0, hW0⟩ : ∃ W, W = w.alloc (.cells #[.int .i64 0, .int .i64 0, .string ⟨#[]⟩, .int .i64 0, .string ⟨#[]⟩, .string ⟨#[]⟩, .bool false, .bool false] 28) := ⟨_, rfl⟩
  obtain ⟨W1, hW1⟩ : ∃ W, W = W0.alloc (.cells #[.slice ao xs.length cap, .int .i64 0, .bool false] 51) := ⟨_, rfl⟩
  have s0 : W0.heap.size = w.heap.size + 1 := by rw [hW0]; simp
  have b0 : Below w.heap.size w W0 := by rw [hW0]; exact (Below.refl _ _).alloc (Nat.le_refl _) _
  have b1 : Below w.heap.size w W1 := by rw [hW1]; exact b0.alloc b0.size _
  have k1 : W1.heap[w.heap.size]? = some (.cells #[.int .i64 0, .int .i64 0, .string ⟨#[]⟩, .int .i64 0, .string ⟨#[]⟩, .string ⟨#[]⟩, .bool false, .bool false] 28 (0, 0)) := by
    rw [hW1, Below.heap_alloc _ _ _ (by omega), hW0]; exact heap_alloc_new w _
  have R1 : Rdr 51 W1 (w.heap.size + 1) ao cap xs 0 false := ⟨by rw [hW1]; exact new_at s0, Nat.zero_le _, h.below b1 (Nat.le_refl _)⟩
  have HJ := job_any W1 (w.heap.size + 1) ao cap xs R1 (by omega)
  obtain ⟨c, hc⟩ : ∃ x, x = (jI xs).c := ⟨_, rfl⟩
  obtain ⟨s, hs⟩ : ∃ x, x = (jI xs).s := ⟨_, rfl⟩
  obtain ⟨F, hF⟩ : ∃ x, x = (jI xs).F := ⟨_, rfl⟩
  obtain ⟨v, hv⟩ : ∃ x, x = (jI xs).v := ⟨_, rfl⟩
  obtain ⟨S, hS⟩ : ∃ x, x = (jI xs).S := ⟨_, rfl⟩
  obtain ⟨T, hT⟩ : ∃ x, x = (jI xs).T := ⟨_, rfl⟩
  obtain ⟨e, he⟩ : ∃ x, x = (bits .and .u8 (flV xs (jI xs).a) 1 != 0) := ⟨_, rfl⟩
  obtain ⟨q, hq⟩ : ∃ x, x = (bits .and .u8 (flV xs (jI xs).a) 2 != 0) := ⟨_, rfl⟩
  have HV : Hid (jobV (jI xs) (flV xs (jI xs).a) = .agg #[.int .i64 c, .int .i64 s, .string F, .int .i64 v, .string S, .string T, .bool e, .bool q]) := by unfold Hid jobV; rw [hc, hs, hF, hv, hS, hT, he, hq]
  have HRt : Hid (rightJ xs = jobB c s F.size v S.size T.size) := by unfold Hid rightJ; rw [hc, hs, hF, hv, hS, hT]
  have HSz : Hid (F.size ≤ maxLen ∧ S.size ≤ maxLen ∧ T.size ≤ maxLen) := by
    have := jI_sizes xs
    rw [hF, hS, hT]
    unfold Hid maxLen
    omega
  rw [HV.out] at HJ
  rw [hW1, hW0] at HJ
  have HW : Hid (Below w.heap.size w W1 ∧ W1.heap[w.heap.size]? = some (.cells #[.int .i64 0, .int .i64 0, .string ⟨#[]⟩, .int .i64 0, .string ⟨#[]⟩, .string ⟨#[]⟩, .bool false, .bool false] 28 (0, 0)) ∧ W1.heap.size = w.heap.size + 2) := ⟨b1, k1, by rw [hW1]; simp [s0]⟩
  have HL : Hid (¬ 65536 < xs.length) := hl
  clear hc hs hF hv hS hT he hq R1 k1 b0 b1 s0 h hl
  rcases Bool.eq_false_or_eq_true (badJ xs) with hB | hB
  · rw [(read_bad HL.out hB).1, (read_bad HL.out hB).2]
    go_enter Try.func14, Try.ntmps14
    go_wp2_with fail
    refine HJ.mono ?_
    rw [← hW0, ← hW1]
    rintro r w2 ⟨rfl, ⟨a2, R2⟩, g2⟩
    clear HJ hW0 hW1
    have s2 := g2.size
    have z1 := HW.out.2.2
    have k2 := blk_kept HW.out.2.1 (by omega) g2
    have B2 : Below w.heap.size w w2 := HW.out.1.grown g2 (by omega) (fun k hk => by simp only [Option.some.injEq] at hk; omega)
    obtain ⟨W3, hW3⟩ : ∃ X, X = w2.alloc (.cells #[.int .i64 c, .int .i64 s, .string F, .int .i64 v, .string S, .string T, .bool e, .bool q] 28) := ⟨_, rfl⟩
    have b3 : Below w2.heap.size w2 W3 := by rw [hW3]; exact (Below.refl _ _).alloc (Nat.le_refl _) _
    have k3 := kept b3 k2 (Nat.le_refl _)
    have j3 : W3.heap[w2.heap.size]? = some (.cells #[.int .i64 c, .int .i64 s, .string F, .int .i64 v, .string S, .string T, .bool e, .bool q] 28 (0, 0)) := by rw [hW3]; exact heap_alloc_new w2 _
    have d3 : W3.cell? ⟨w.heap.size + 1, 2, none⟩ = some (.bool (badJ xs)) := cell_of (kept b3 R2.1 (Nat.le_refl _)) rfl
    have B3 : Below w.heap.size w W3 := B2.trans (b3.mono (by omega))
    rw [hB] at d3
    have KK := k3
    have BB := B3
    have r0 := cell_of (i := 0) KK rfl
    have u0 := frozen_of KK 0
    have r1 := cell_of (i := 1) KK rfl
    have u1 := frozen_of KK 1
    have r2 := cell_of (i := 2) KK rfl
    have u2 := frozen_of KK 2
    have r3 := cell_of (i := 3) KK rfl
    have u3 := frozen_of KK 3
    have r4 := cell_of (i := 4) KK rfl
    have u4 := frozen_of KK 4
    have r5 := cell_of (i := 5) KK rfl
    have u5 := frozen_of KK 5
    have r6 := cell_of (i := 6) KK rfl
    have u6 := frozen_of KK 6
    have r7 := cell_of (i := 7) KK rfl
    have u7 := frozen_of KK 7
    have HS := eight_sets KK (.int .i64 0) (.int .i64 0) (.string ⟨#[]⟩) (.int .i64 0) (.string ⟨#[]⟩) (.string ⟨#[]⟩) (.bool false) (.bool false)
    obtain ⟨X, hX⟩ : ∃ x, x = ((((((((W3.setCell ⟨w.heap.size, 0, none⟩ (.int .i64 0)).setCell ⟨w.heap.size, 1, none⟩ (.int .i64 0)).setCell ⟨w.heap.size, 2, none⟩ (.string ⟨#[]⟩)).setCell ⟨w.heap.size, 3, none⟩ (.int .i64 0)).setCell ⟨w.heap.size, 4, none⟩ (.string ⟨#[]⟩)).setCell ⟨w.heap.size, 5, none⟩ (.string ⟨#[]⟩)).setCell ⟨w.heap.size, 6, none⟩ (.bool false)).setCell ⟨w.heap.size, 7, none⟩ (.bool false)) := ⟨_, rfl⟩
    rw [← hX] at HS
    have HEnd : Hid (Below w.heap.size w X) := BB.grown HS.2 BB.size (fun k hk => by simp only [Option.some.injEq] at hk; omega)
    have t0 : X.cell? ⟨w.heap.size, 0, none⟩ = some (.int .i64 0) := cell_of HS.1 rfl
    have t1 : X.cell? ⟨w.heap.size, 1, none⟩ = some (.int .i64 0) := cell_of HS.1 rfl
    have t2 : X.cell? ⟨w.heap.size, 2, none⟩ = some (.string ⟨#[]⟩) := cell_of HS.1 rfl
    have t3 : X.cell? ⟨w.heap.size, 3, none⟩ = some (.int .i64 0) := cell_of HS.1 rfl
    have t4 : X.cell? ⟨w.heap.size, 4, none⟩ = some (.string ⟨#[]⟩) := cell_of HS.1 rfl
    have t5 : X.cell? ⟨w.heap.size, 5, none⟩ = some (.string ⟨#[]⟩) := cell_of HS.1 rfl
    have t6 : X.cell? ⟨w.heap.size, 6, none⟩ = some (.bool false) := cell_of HS.1 rfl
    have t7 : X.cell? ⟨w.heap.size, 7, none⟩ = some (.bool false) := cell_of HS.1 rfl
    rw [hX] at t0 t1 t2 t3 t4 t5 t6 t7 HEnd
    clear hX HS KK BB
    rw [hW3] at d3 r0 u0 t0 r1 u1 t1 r2 u2 t2 r3 u3 t3 r4 u4 t4 r5 u5 t5 r6 u6 t6 r7 u7 t7 HEnd
    clear hW3 k3 j3 B3 b3 k2 B2 R2 g2 s2 z1
    go_wp2
    exact bodyPost_ret (v := .tuple #[zeroJ, .int .i64 3]) (by simp [results, Try.results14, go_sem, zeroJ, t0, t1, t2, t3, t4, t5, t6, t7]) rfl ⟨rfl, HEnd.out⟩
  rcases Bool.eq_false_or_eq_true (rightJ xs) with hR | hR
  rotate_left
  · rw [(read_wrong HL.out hB hR).1, (read_wrong HL.out hB hR).2]
    go_enter Try.func14, Try.ntmps14
    go_wp2_with fail
    refine HJ.mono ?_
    rw [← hW0, ← hW1]
    rintro r w2 ⟨rfl, ⟨a2, R2⟩, g2⟩
    clear HJ hW0 hW1
    have s2 := g2.size
    have z1 := HW.out.2.2
    have k2 := blk_kept HW.out.2.1 (by omega) g2
    have B2 : Below w.heap.size w w2 := HW.out.1.grown g2 (by omega) (fun k hk => by simp only [Option.some.injEq] at hk; omega)
    obtain ⟨W3, hW3⟩ : ∃ X, X = w2.alloc (.cells #[.int .i64 c, .int .i64 s, .string F, .int .i64 v, .string S, .string T, .bool e, .bool q] 28) := ⟨_, rfl⟩
    have b3 : Below w2.heap.size w2 W3 := by rw [hW3]; exact (Below.refl _ _).alloc (Nat.le_refl _) _
    have k3 := kept b3 k2 (Nat.le_refl _)
    have j3 : W3.heap[w2.heap.size]? = some (.cells #[.int .i64 c, .int .i64 s, .string F, .int .i64 v, .string S, .string T, .bool e, .bool q] 28 (0, 0)) := by rw [hW3]; exact heap_alloc_new w2 _
    have d3 : W3.cell? ⟨w.heap.size + 1, 2, none⟩ = some (.bool (badJ xs)) := cell_of (kept b3 R2.1 (Nat.le_refl _)) rfl
    have B3 : Below w.heap.size w W3 := B2.trans (b3.mono (by omega))
    rw [hB] at d3
    have HOK := implOK W3 c s F v S T e q HSz.out.1 HSz.out.2.1 HSz.out.2.2
    rw [← HRt.out, hR, hW3] at HOK
    have l0 := cell_of (i := 0) j3 rfl
    have l1 := cell_of (i := 1) j3 rfl
    have l2 := cell_of (i := 2) j3 rfl
    have l3 := cell_of (i := 3) j3 rfl
    have l4 := cell_of (i := 4) j3 rfl
    have l5 := cell_of (i := 5) j3 rfl
    have l6 := cell_of (i := 6) j3 rfl
    have l7 := cell_of (i := 7) j3 rfl
    have H3 : Hid (Below w.heap.size w W3 ∧ W3.heap[w.heap.size]? = some (.cells #[.int .i64 0, .int .i64 0, .string ⟨#[]⟩, .int .i64 0, .string ⟨#[]⟩, .string ⟨#[]⟩, .bool false, .bool false] 28 (0, 0)) ∧ W3.heap[w2.heap.size]? = some (.cells #[.int .i64 c, .int .i64 s, .string F, .int .i64 v, .string S, .string T, .bool e, .bool q] 28 (0, 0))) := ⟨B3, k3, j3⟩
    have hW3' := hide hW3
    rw [hW3] at d3 l0 l1 l2 l3 l4 l5 l6 l7
    clear k3 j3 B3 b3 k2 R2 g2 HV HRt
    have s3 := B2.size
    clear B2 s2 z1 hW3
    go_wp2_with fail
    refine HOK.mono ?_
    rw [← hW3'.out]
    rintro r w4 ⟨rfl, b4⟩
    have KK := kept b4 H3.out.2.1 (Nat.le_refl _)
    have JJ := kept b4 H3.out.2.2 (Nat.le_refl _)
    have BB : Below w.heap.size w w4 := H3.out.1.trans (b4.mono H3.out.1.size)
    clear HOK d3 l0 l1 l2 l3 l4 l5 l6 l7 b4
    clear JJ
    have r0 := cell_of (i := 0) KK rfl
    have u0 := frozen_of KK 0
    have r1 := cell_of (i := 1) KK rfl
    have u1 := frozen_of KK 1
    have r2 := cell_of (i := 2) KK rfl
    have u2 := frozen_of KK 2
    have r3 := cell_of (i := 3) KK rfl
    have u3 := frozen_of KK 3
    have r4 := cell_of (i := 4) KK rfl
    have u4 := frozen_of KK 4
    have r5 := cell_of (i := 5) KK rfl
    have u5 := frozen_of KK 5
    have r6 := cell_of (i := 6) KK rfl
    have u6 := frozen_of KK 6
    have r7 := cell_of (i := 7) KK rfl
    have u7 := frozen_of KK 7
    have HS := eight_sets KK (.int .i64 0) (.int .i64 0) (.string ⟨#[]⟩) (.int .i64 0) (.string ⟨#[]⟩) (.string ⟨#[]⟩) (.bool false) (.bool false)
    obtain ⟨X, hX⟩ : ∃ x, x = ((((((((w4.setCell ⟨w.heap.size, 0, none⟩ (.int .i64 0)).setCell ⟨w.heap.size, 1, none⟩ (.int .i64 0)).setCell ⟨w.heap.size, 2, none⟩ (.string ⟨#[]⟩)).setCell ⟨w.heap.size, 3, none⟩ (.int .i64 0)).setCell ⟨w.heap.size, 4, none⟩ (.string ⟨#[]⟩)).setCell ⟨w.heap.size, 5, none⟩ (.string ⟨#[]⟩)).setCell ⟨w.heap.size, 6, none⟩ (.bool false)).setCell ⟨w.heap.size, 7, none⟩ (.bool false)) := ⟨_, rfl⟩
    rw [← hX] at HS
    have HEnd : Hid (Below w.heap.size w X) := BB.grown HS.2 BB.size (fun k hk => by simp only [Option.some.injEq] at hk; omega)
    have t0 : X.cell? ⟨w.heap.size, 0, none⟩ = some (.int .i64 0) := cell_of HS.1 rfl
    have t1 : X.cell? ⟨w.heap.size, 1, none⟩ = some (.int .i64 0) := cell_of HS.1 rfl
    have t2 : X.cell? ⟨w.heap.size, 2, none⟩ = some (.string ⟨#[]⟩) := cell_of HS.1 rfl
    have t3 : X.cell? ⟨w.heap.size, 3, none⟩ = some (.int .i64 0) := cell_of HS.1 rfl
    have t4 : X.cell? ⟨w.heap.size, 4, none⟩ = some (.string ⟨#[]⟩) := cell_of HS.1 rfl
    have t5 : X.cell? ⟨w.heap.size, 5, none⟩ = some (.string ⟨#[]⟩) := cell_of HS.1 rfl
    have t6 : X.cell? ⟨w.heap.size, 6, none⟩ = some (.bool false) := cell_of HS.1 rfl
    have t7 : X.cell? ⟨w.heap.size, 7, none⟩ = some (.bool false) := cell_of HS.1 rfl
    rw [hX] at t0 t1 t2 t3 t4 t5 t6 t7 HEnd
    clear hX HS KK BB
    go_wp2
    exact bodyPost_ret (v := .tuple #[zeroJ, .int .i64 1]) (by simp [results, Try.results14, go_sem, zeroJ, t0, t1, t2, t3, t4, t5, t6, t7]) rfl ⟨rfl, HEnd.out⟩
  · rw [(read_right HL.out hB hR).1, (read_right HL.out hB hR).2, HV.out]
    go_enter Try.func14, Try.ntmps14
    go_wp2_with fail
    refine HJ.mono ?_
    rw [← hW0, ← hW1]
    rintro r w2 ⟨rfl, ⟨a2, R2⟩, g2⟩
    clear HJ hW0 hW1
    have s2 := g2.size
    have z1 := HW.out.2.2
    have k2 := blk_kept HW.out.2.1 (by omega) g2
    have B2 : Below w.heap.size w w2 := HW.out.1.grown g2 (by omega) (fun k hk => by simp only [Option.some.injEq] at hk; omega)
    obtain ⟨W3, hW3⟩ : ∃ X, X = w2.alloc (.cells #[.int .i64 c, .int .i64 s, .string F, .int .i64 v, .string S, .string T, .bool e, .bool q] 28) := ⟨_, rfl⟩
    have b3 : Below w2.heap.size w2 W3 := by rw [hW3]; exact (Below.refl _ _).alloc (Nat.le_refl _) _
    have k3 := kept b3 k2 (Nat.le_refl _)
    have j3 : W3.heap[w2.heap.size]? = some (.cells #[.int .i64 c, .int .i64 s, .string F, .int .i64 v, .string S, .string T, .bool e, .bool q] 28 (0, 0)) := by rw [hW3]; exact heap_alloc_new w2 _
    have d3 : W3.cell? ⟨w.heap.size + 1, 2, none⟩ = some (.bool (badJ xs)) := cell_of (kept b3 R2.1 (Nat.le_refl _)) rfl
    have B3 : Below w.heap.size w W3 := B2.trans (b3.mono (by omega))
    rw [hB] at d3
    have HOK := implOK W3 c s F v S T e q HSz.out.1 HSz.out.2.1 HSz.out.2.2
    rw [← HRt.out, hR, hW3] at HOK
    have l0 := cell_of (i := 0) j3 rfl
    have l1 := cell_of (i := 1) j3 rfl
    have l2 := cell_of (i := 2) j3 rfl
    have l3 := cell_of (i := 3) j3 rfl
    have l4 := cell_of (i := 4) j3 rfl
    have l5 := cell_of (i := 5) j3 rfl
    have l6 := cell_of (i := 6) j3 rfl
    have l7 := cell_of (i := 7) j3 rfl
    have H3 : Hid (Below w.heap.size w W3 ∧ W3.heap[w.heap.size]? = some (.cells #[.int .i64 0, .int .i64 0, .string ⟨#[]⟩, .int .i64 0, .string ⟨#[]⟩, .string ⟨#[]⟩, .bool false, .bool false] 28 (0, 0)) ∧ W3.heap[w2.heap.size]? = some (.cells #[.int .i64 c, .int .i64 s, .string F, .int .i64 v, .string S, .string T, .bool e, .bool q] 28 (0, 0))) := ⟨B3, k3, j3⟩
    have hW3' := hide hW3
    rw [hW3] at d3 l0 l1 l2 l3 l4 l5 l6 l7
    clear k3 j3 B3 b3 k2 R2 g2 HV HRt
    have s3 := B2.size
    clear B2 s2 z1 hW3
    go_wp2_with fail
    refine HOK.mono ?_
    rw [← hW3'.out]
    rintro r w4 ⟨rfl, b4⟩
    have KK := kept b4 H3.out.2.1 (Nat.le_refl _)
    have JJ := kept b4 H3.out.2.2 (Nat.le_refl _)
    have BB : Below w.heap.size w w4 := H3.out.1.trans (b4.mono H3.out.1.size)
    clear HOK d3 l0 l1 l2 l3 l4 l5 l6 l7 b4
    have l0 := cell_of (i := 0) JJ rfl
    have l1 := cell_of (i := 1) JJ rfl
    have l2 := cell_of (i := 2) JJ rfl
    have l3 := cell_of (i := 3) JJ rfl
    have l4 := cell_of (i := 4) JJ rfl
    have l5 := cell_of (i := 5) JJ rfl
    have l6 := cell_of (i := 6) JJ rfl
    have l7 := cell_of (i := 7) JJ rfl
    clear JJ
    have r0 := cell_of (i := 0) KK rfl
    have u0 := frozen_of KK 0
    have r1 := cell_of (i := 1) KK rfl
    have u1 := frozen_of KK 1
    have r2 := cell_of (i := 2) KK rfl
    have u2 := frozen_of KK 2
    have r3 := cell_of (i := 3) KK rfl
    have u3 := frozen_of KK 3
    have r4 := cell_of (i := 4) KK rfl
    have u4 := frozen_of KK 4
    have r5 := cell_of (i := 5) KK rfl
    have u5 := frozen_of KK 5
    have r6 := cell_of (i := 6) KK rfl
    have u6 := frozen_of KK 6
    have r7 := cell_of (i := 7) KK rfl
    have u7 := frozen_of KK 7
    have HS := eight_sets KK (.int .i64 c) (.int .i64 s) (.string F) (.int .i64 v) (.string S) (.string T) (.bool e) (.bool q)
    obtain ⟨X, hX⟩ : ∃ x, x = ((((((((w4.setCell ⟨w.heap.size, 0, none⟩ (.int .i64 c)).setCell ⟨w.heap.size, 1, none⟩ (.int .i64 s)).setCell ⟨w.heap.size, 2, none⟩ (.string F)).setCell ⟨w.heap.size, 3, none⟩ (.int .i64 v)).setCell ⟨w.heap.size, 4, none⟩ (.string S)).setCell ⟨w.heap.size, 5, none⟩ (.string T)).setCell ⟨w.heap.size, 6, none⟩ (.bool e)).setCell ⟨w.heap.size, 7, none⟩ (.bool q)) := ⟨_, rfl⟩
    rw [← hX] at HS
    have HEnd : Hid (Below w.heap.size w X) := BB.grown HS.2 BB.size (fun k hk => by simp only [Option.some.injEq] at hk; omega)
    have t0 : X.cell? ⟨w.heap.size, 0, none⟩ = some (.int .i64 c) := cell_of HS.1 rfl
    have t1 : X.cell? ⟨w.heap.size, 1, none⟩ = some (.int .i64 s) := cell_of HS.1 rfl
    have t2 : X.cell? ⟨w.heap.size, 2, none⟩ = some (.string F) := cell_of HS.1 rfl
    have t3 : X.cell? ⟨w.heap.size, 3, none⟩ = some (.int .i64 v) := cell_of HS.1 rfl
    have t4 : X.cell? ⟨w.heap.size, 4, none⟩ = some (.string S) := cell_of HS.1 rfl
    have t5 : X.cell? ⟨w.heap.size, 5, none⟩ = some (.string T) := cell_of HS.1 rfl
    have t6 : X.cell? ⟨w.heap.size, 6, none⟩ = some (.bool e) := cell_of HS.1 rfl
    have t7 : X.cell? ⟨w.heap.size, 7, none⟩ = some (.bool q) := cell_of HS.1 rfl
    rw [hX] at t0 t1 t2 t3 t4 t5 t6 t7 HEnd
    clear hX HS KK BB
    go_wp2
    exact bodyPost_ret (v := .tuple #[.agg #[.int .i64 c, .int .i64 s, .string F, .int .i64 v, .string S, .string T, .bool e, .bool q], .int .i64 0]) (by simp [results, Try.results14, go_sem, t0, t1, t2, t3, t4, t5, t6, t7]) rfl ⟨rfl, HEnd.out⟩
end Go.Proofs.Ytdahnooehjdcgaa.rdl
