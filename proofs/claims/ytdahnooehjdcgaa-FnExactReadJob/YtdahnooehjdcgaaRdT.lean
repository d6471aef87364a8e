/- The specification's ReadJob says what the program's says. -/
import Derived.Test.YtdahnooehjdcgaaRdS
namespace Go.Proofs.Ytdahnooehjdcgaa.rdt
open Go.ChangeShapes Go.WideShapes Go.ChangeAt Go.RowKit
open Go.Proofs.Ytdahnooehjdcgaa.bytes Go.Proofs.Ytdahnooehjdcgaa.pile Go.Proofs.Ytdahnooehjdcgaa.get Go.Proofs.Ytdahnooehjdcgaa.dec Go.Proofs.Ytdahnooehjdcgaa.jhelp Go.Proofs.Ytdahnooehjdcgaa.read Go.Proofs.Ytdahnooehjdcgaa.rdi Go.Proofs.Ytdahnooehjdcgaa.rdj Go.Proofs.Ytdahnooehjdcgaa.rdk Go.Proofs.Ytdahnooehjdcgaa.rdl Go.Proofs.Ytdahnooehjdcgaa.rds Go.Proofs.Ytdahnooehjdcgaa.jok
set_option linter.unusedVariables false

theorem tS_size {xs : List Int} {a : Nat} {b : Bool} (ha : a ≤ xs.length) : (tS xs a b).1.size ≤ xs.length := by
  cases b
  · rw [tS_false ha]; exact tI_size
  · rw [tS_true]; simp [ByteArray.size]

/-- What the six reads leave, in the world behind them. -/
structure Six (w W : World) (d : Nat) (ao : Option Addr) (cap : Nat) (xs : List Int) (a : Nat) (b : Bool) : Prop where
  rdr : Rdr 45 W d ao cap xs a b
  out : W.heap[w.heap.size]? = some (.cells #[.int .i64 0, .int .i64 0, .string ⟨#[]⟩, .int .i64 0, .string ⟨#[]⟩, .string ⟨#[]⟩, .bool false, .bool false] 28 (0, 0))
  bel : Below w.heap.size w W
  sz : w.heap.size + 2 ≤ W.heap.size

set_option maxRecDepth 20000 in
set_option maxHeartbeats 12800000 in
theorem specRead (w : World) (ao : Option Addr) (cap : Nat) (xs : List Int) (h : RdA w (.slice ao xs.length cap) xs) :
    Calls Try.prog 12 #[.slice ao xs.length cap] w fun r w' => r = .returned (.tuple #[readV xs, .int .i64 (readC xs)]) ∧ Below w.heap.size w w' := by
  have hcb : xs.length ≤ maxLen := by
    obtain ⟨⟨ao', cap', e, h1, h2, _⟩, _⟩ := h
    simp only [Value.slice.injEq, true_and] at e
    omega
  unfold maxLen at hcb
  by_cases hl : 65536 < xs.length
  · rw [(read_long hl).1, (read_long hl).2]
    have hli : (65536 : Int) < xs.length := by omega
    have HB : Hid (∀ o, Below w.heap.size w (w.alloc o)) := fun o => (Below.refl _ _).alloc (Nat.le_refl _) _
    go_enter Try.func12, Try.ntmps12
    go_wp2
    exact bodyPost_ret (v := .tuple #[zeroJ, .int .i64 2]) (by simp [results, Try.results12, go_sem, zeroJ]) rfl ⟨rfl, HB.out _⟩
  have hli : ¬ (65536 : Int) < xs.length := by omega
  have hle : xs.length ≤ 65536 := by omega
  obtain ⟨p1, hp1⟩ : ∃ p, p = nS xs 0 false := ⟨_, rfl⟩
  obtain ⟨p2, hp2⟩ : ∃ p, p = nS xs p1.2.1 p1.2.2 := ⟨_, rfl⟩
  obtain ⟨p3, hp3⟩ : ∃ p, p = tS xs p2.2.1 p2.2.2 := ⟨_, rfl⟩
  obtain ⟨p4, hp4⟩ : ∃ p, p = nS xs p3.2.1 p3.2.2 := ⟨_, rfl⟩
  obtain ⟨p5, hp5⟩ : ∃ p, p = tS xs p4.2.1 p4.2.2 := ⟨_, rfl⟩
  obtain ⟨p6, hp6⟩ : ∃ p, p = tS xs p5.2.1 p5.2.2 := ⟨_, rfl⟩
  have HJ : Hid (jS xs = ⟨p1.1, p2.1, p3.1, p4.1, p5.1, p6.1, p6.2.1, p6.2.2⟩) := by subst hp6 hp5 hp4 hp3 hp2 hp1; rfl
  have l1 : p1.2.1 ≤ xs.length := by rw [hp1]; exact (nS_ok false (Nat.zero_le _)).2
  have l2 : p2.2.1 ≤ xs.length := by rw [hp2]; exact (nS_ok _ l1).2
  have l3 : p3.2.1 ≤ xs.length := by rw [hp3]; exact tS_ok _ l2
  have l4 : p4.2.1 ≤ xs.length := by rw [hp4]; exact (nS_ok _ l3).2
  have l5 : p5.2.1 ≤ xs.length := by rw [hp5]; exact tS_ok _ l4
  have l6 : p6.2.1 ≤ xs.length := by rw [hp6]; exact tS_ok _ l5
  have HSz : Hid (p3.1.size ≤ maxLen ∧ p5.1.size ≤ maxLen ∧ p6.1.size ≤ maxLen) := by
    have z3 : p3.1.size ≤ xs.length := by rw [hp3]; exact tS_size l2
    have z5 : p5.1.size ≤ xs.length := by rw [hp5]; exact tS_size l4
    have z6 : p6.1.size ≤ xs.length := by rw [hp6]; exact tS_size l5
    unfold Hid maxLen
    omega
  have C1 : Hid (∀ wx, Rdr 45 wx (w.heap.size + 1) ao cap xs 0 false → Calls Try.prog 20 #[.pointer (some ⟨w.heap.size + 1, 0, none⟩)] wx fun r w' => r = .returned (.int .i64 p1.1) ∧ Rdr 45 w' (w.heap.size + 1) ao cap xs p1.2.1 p1.2.2 ∧ wx.grownBy w' (some (w.heap.size + 1))) := fun wx hr => by rw [hp1]; exact number_s wx _ ao cap xs _ _ hr hle
  have C2 : Hid (∀ wx, Rdr 45 wx (w.heap.size + 1) ao cap xs p1.2.1 p1.2.2 → Calls Try.prog 20 #[.pointer (some ⟨w.heap.size + 1, 0, none⟩)] wx fun r w' => r = .returned (.int .i64 p2.1) ∧ Rdr 45 w' (w.heap.size + 1) ao cap xs p2.2.1 p2.2.2 ∧ wx.grownBy w' (some (w.heap.size + 1))) := fun wx hr => by rw [hp2]; exact number_s wx _ ao cap xs _ _ hr hle
  have C3 : Hid (∀ wx, Rdr 45 wx (w.heap.size + 1) ao cap xs p2.2.1 p2.2.2 → Calls Try.prog 21 #[.pointer (some ⟨w.heap.size + 1, 0, none⟩)] wx fun r w' => r = .returned (.string p3.1) ∧ Rdr 45 w' (w.heap.size + 1) ao cap xs p3.2.1 p3.2.2 ∧ wx.grownBy w' (some (w.heap.size + 1))) := fun wx hr => by rw [hp3]; exact text_s wx _ ao cap xs _ _ hr hle
  have C4 : Hid (∀ wx, Rdr 45 wx (w.heap.size + 1) ao cap xs p3.2.1 p3.2.2 → Calls Try.prog 20 #[.pointer (some ⟨w.heap.size + 1, 0, none⟩)] wx fun r w' => r = .returned (.int .i64 p4.1) ∧ Rdr 45 w' (w.heap.size + 1) ao cap xs p4.2.1 p4.2.2 ∧ wx.grownBy w' (some (w.heap.size + 1))) := fun wx hr => by rw [hp4]; exact number_s wx _ ao cap xs _ _ hr hle
  have C5 : Hid (∀ wx, Rdr 45 wx (w.heap.size + 1) ao cap xs p4.2.1 p4.2.2 → Calls Try.prog 21 #[.pointer (some ⟨w.heap.size + 1, 0, none⟩)] wx fun r w' => r = .returned (.string p5.1) ∧ Rdr 45 w' (w.heap.size + 1) ao cap xs p5.2.1 p5.2.2 ∧ wx.grownBy w' (some (w.heap.size + 1))) := fun wx hr => by rw [hp5]; exact text_s wx _ ao cap xs _ _ hr hle
  have C6 : Hid (∀ wx, Rdr 45 wx (w.heap.size + 1) ao cap xs p5.2.1 p5.2.2 → Calls Try.prog 21 #[.pointer (some ⟨w.heap.size + 1, 0, none⟩)] wx fun r w' => r = .returned (.string p6.1) ∧ Rdr 45 w' (w.heap.size + 1) ao cap xs p6.2.1 p6.2.2 ∧ wx.grownBy w' (some (w.heap.size + 1))) := fun wx hr => by rw [hp6]; exact text_s wx _ ao cap xs _ _ hr hle
  obtain ⟨A, hA⟩ : ∃ A, A = p6.2.1 := ⟨_, rfl⟩
  obtain ⟨b6, hb6⟩ : ∃ b, b = p6.2.2 := ⟨_, rfl⟩
  rw [← hA, ← hb6] at C6 HJ
  rw [← hA] at l6
  obtain ⟨f, hf⟩ : ∃ f, f = xs.getD A 0 := ⟨_, rfl⟩
  have HBad : Hid (badJ xs = (b6 || (decide (A + 1 ≠ xs.length) || decide (3 < f)))) := by unfold Hid; rw [badJ_S, HJ.out, hf]; rfl
  have HGood : Hid (badJ xs = false → jI xs = ⟨p1.1, p2.1, p3.1, p4.1, p5.1, p6.1, A, b6⟩) := fun hb => by
    have hb' : (jI xs).b = false := by
      unfold badJ endB at hb
      simp only [Bool.or_eq_false_iff] at hb
      exact hb.1
    rw [(j_alike xs).2 hb', HJ.out]
  have HF : Hid (f = xs.getD A 0) := hf
  have hfb : 0 ≤ f := by
    rw [hf]
    obtain ⟨⟨_, _, _, _, _, hx, _⟩, _⟩ := h
    exact (getD_bd hx A).1
  have HR0 : Hid (RdA w (.slice ao xs.length cap) xs) := h
  obtain ⟨W0, hW0⟩ : ∃ W, W = w.alloc (.cells #[.int .i64 0, .int .i64 0, .string ⟨#[]⟩, .int .i64 0, .string ⟨#[]⟩, .string ⟨#[]⟩, .bool false, .bool false] 28) := ⟨_, rfl⟩
  obtain ⟨W1, hW1⟩ : ∃ W, W = W0.alloc (.cells #[.slice ao xs.length cap, .int .i64 0, .bool false] 45) := ⟨_, rfl⟩
  have s0 : W0.heap.size = w.heap.size + 1 := by rw [hW0]; simp
  have b0 : Below w.heap.size w W0 := by rw [hW0]; exact (Below.refl _ _).alloc (Nat.le_refl _) _
  have b1 : Below w.heap.size w W1 := by rw [hW1]; exact b0.alloc b0.size _
  have k1 : W1.heap[w.heap.size]? = some (.cells #[.int .i64 0, .int .i64 0, .string ⟨#[]⟩, .int .i64 0, .string ⟨#[]⟩, .string ⟨#[]⟩, .bool false, .bool false] 28 (0, 0)) := by
    rw [hW1, Below.heap_alloc _ _ _ (by omega), hW0]; exact heap_alloc_new w _
  have R1 : Rdr 45 W1 (w.heap.size + 1) ao cap xs 0 false := ⟨by rw [hW1]; exact new_at s0, Nat.zero_le _, h.below b1 (Nat.le_refl _)⟩
  have HC1 := C1.out W1 R1
  rw [hW1, hW0] at HC1
  have HStep : Hid (∀ W W' a b a' b', Six w W (w.heap.size + 1) ao cap xs a b → Rdr 45 W' (w.heap.size + 1) ao cap xs a' b' → W.grownBy W' (some (w.heap.size + 1)) → Six w W' (w.heap.size + 1) ao cap xs a' b') := fun W W' a b a' b' hS hR hg =>
    ⟨hR, blk_kept hS.out (by omega) hg, hS.bel.grown hg hS.bel.size (fun k hk => by simp only [Option.some.injEq] at hk; omega), Nat.le_trans hS.sz hg.size⟩
  have HW1 : Hid (Six w W1 (w.heap.size + 1) ao cap xs 0 false) := ⟨R1, k1, b1, by rw [hW1]; simp [s0]⟩
  have HL : Hid (¬ 65536 < xs.length) := hl
  clear hp1 hp2 hp3 hp4 hp5 hp6 hA hb6 hf HJ C1 R1 k1 b0 b1 s0 h hl l1 l2 l3 l4 l5
  cases b6 with
  | true =>
    rw [(read_bad HL.out (by rw [HBad.out]; simp)).1, (read_bad HL.out (by rw [HBad.out]; simp)).2]
    clear HGood HBad HF
    go_enter Try.func12, Try.ntmps12
    go_wp2_with fail
    refine HC1.mono ?_
    rw [← hW0, ← hW1]
    rintro r w1 ⟨rfl, R1, g1⟩
    have S1 := HStep.out _ _ _ _ _ _ HW1.out R1 g1
    clear hW0 hW1 HC1 g1 R1
    go_wp2_with fail
    refine (C2.out w1 S1.rdr).mono ?_
    rintro r w2 ⟨rfl, R2, g2⟩
    have S2 := HStep.out _ _ _ _ _ _ S1 R2 g2
    clear R2 g2 S1 C2
    go_wp2_with fail
    refine (C3.out w2 S2.rdr).mono ?_
    rintro r w3 ⟨rfl, R3, g3⟩
    have S3 := HStep.out _ _ _ _ _ _ S2 R3 g3
    clear R3 g3 S2 C3
    go_wp2_with fail
    refine (C4.out w3 S3.rdr).mono ?_
    rintro r w4 ⟨rfl, R4, g4⟩
    have S4 := HStep.out _ _ _ _ _ _ S3 R4 g4
    clear R4 g4 S3 C4
    go_wp2_with fail
    refine (C5.out w4 S4.rdr).mono ?_
    rintro r w5 ⟨rfl, R5, g5⟩
    have S5 := HStep.out _ _ _ _ _ _ S4 R5 g5
    clear R5 g5 S4 C5
    go_wp2_with fail
    refine (C6.out w5 S5.rdr).mono ?_
    rintro r w6 ⟨rfl, R6, g6⟩
    have S6 := HStep.out _ _ _ _ _ _ S5 R6 g6
    clear R6 g6 S5 C6
    obtain ⟨W7, hW7⟩ : ∃ X, X = w6.alloc (.cells #[.int .i64 p1.1, .int .i64 p2.1, .string p3.1, .int .i64 p4.1, .string p5.1, .string p6.1, .bool false, .bool false] 28) := ⟨_, rfl⟩
    have b7 : Below w6.heap.size w6 W7 := by rw [hW7]; exact (Below.refl _ _).alloc (Nat.le_refl _) _
    have s6 := S6.sz
    have R7 := Rdr.grown S6.rdr b7
    have K7 := kept b7 S6.out (Nat.le_refl _)
    have L7 : W7.heap[w6.heap.size]? = some (.cells #[.int .i64 p1.1, .int .i64 p2.1, .string p3.1, .int .i64 p4.1, .string p5.1, .string p6.1, .bool false, .bool false] 28 (0, 0)) := by rw [hW7]; exact heap_alloc_new w6 _
    have B7 : Below w.heap.size w W7 := S6.bel.trans (b7.mono S6.bel.size)
    have e1 : W7.cell? ⟨w.heap.size + 1, 1, none⟩ = some (.int .i64 A) := cell_of R7.1 rfl
    have e2 := cell_of (i := 2) R7.1 rfl
    have KK := K7
    have BB := B7
    have r0 := cell_of (i := 0) KK rfl
    have u0 := frozen_of KK 0
    have r1 := cell_of (i := 1) KK rfl
    have u1 := frozen_of KK 1
    have r2 := cell_of (i := 2) KK rfl
    have u2 := frozen_of KK 2
    have r3 := cell_of (i := 3) KK rfl
    have u3 := frozen_of KK 3
    have r4 := cell_of (i := 4) KK rfl
    have u4 := frozen_of KK 4
    have r5 := cell_of (i := 5) KK rfl
    have u5 := frozen_of KK 5
    have r6 := cell_of (i := 6) KK rfl
    have u6 := frozen_of KK 6
    have r7 := cell_of (i := 7) KK rfl
    have u7 := frozen_of KK 7
    have HS := eight_sets KK (.int .i64 0) (.int .i64 0) (.string ⟨#[]⟩) (.int .i64 0) (.string ⟨#[]⟩) (.string ⟨#[]⟩) (.bool false) (.bool false)
    obtain ⟨X, hX⟩ : ∃ x, x = ((((((((W7.setCell ⟨w.heap.size, 0, none⟩ (.int .i64 0)).setCell ⟨w.heap.size, 1, none⟩ (.int .i64 0)).setCell ⟨w.heap.size, 2, none⟩ (.string ⟨#[]⟩)).setCell ⟨w.heap.size, 3, none⟩ (.int .i64 0)).setCell ⟨w.heap.size, 4, none⟩ (.string ⟨#[]⟩)).setCell ⟨w.heap.size, 5, none⟩ (.string ⟨#[]⟩)).setCell ⟨w.heap.size, 6, none⟩ (.bool false)).setCell ⟨w.heap.size, 7, none⟩ (.bool false)) := ⟨_, rfl⟩
    rw [← hX] at HS
    have HEnd : Hid (Below w.heap.size w X) := BB.grown HS.2 BB.size (fun k hk => by simp only [Option.some.injEq] at hk; omega)
    have t0 : X.cell? ⟨w.heap.size, 0, none⟩ = some (.int .i64 0) := cell_of HS.1 rfl
    have t1 : X.cell? ⟨w.heap.size, 1, none⟩ = some (.int .i64 0) := cell_of HS.1 rfl
    have t2 : X.cell? ⟨w.heap.size, 2, none⟩ = some (.string ⟨#[]⟩) := cell_of HS.1 rfl
    have t3 : X.cell? ⟨w.heap.size, 3, none⟩ = some (.int .i64 0) := cell_of HS.1 rfl
    have t4 : X.cell? ⟨w.heap.size, 4, none⟩ = some (.string ⟨#[]⟩) := cell_of HS.1 rfl
    have t5 : X.cell? ⟨w.heap.size, 5, none⟩ = some (.string ⟨#[]⟩) := cell_of HS.1 rfl
    have t6 : X.cell? ⟨w.heap.size, 6, none⟩ = some (.bool false) := cell_of HS.1 rfl
    have t7 : X.cell? ⟨w.heap.size, 7, none⟩ = some (.bool false) := cell_of HS.1 rfl
    rw [hX] at t0 t1 t2 t3 t4 t5 t6 t7 HEnd
    clear hX HS KK BB
    rw [hW7] at e1 e2 r0 u0 t0 r1 u1 t1 r2 u2 t2 r3 u3 t3 r4 u4 t4 r5 u5 t5 r6 u6 t6 r7 u7 t7 HEnd
    clear hW7 K7 L7 B7 b7 R7 S6 s6
    go_wp2
    exact bodyPost_ret (v := .tuple #[zeroJ, .int .i64 3]) (by simp [results, Try.results12, go_sem, zeroJ, t0, t1, t2, t3, t4, t5, t6, t7]) rfl ⟨rfl, HEnd.out⟩
  | false =>
  by_cases hend : A + 1 = xs.length
  rotate_left
  · have hb : badJ xs = true := by rw [HBad.out]; simp [hend]
    rw [(read_bad HL.out hb).1, (read_bad HL.out hb).2]
    have hne : ((A : Int) != (xs.length : Int) - 1) = true := by simp; omega
    clear hb HGood HBad HF
    go_enter Try.func12, Try.ntmps12
    go_wp2_with fail
    refine HC1.mono ?_
    rw [← hW0, ← hW1]
    rintro r w1 ⟨rfl, R1, g1⟩
    have S1 := HStep.out _ _ _ _ _ _ HW1.out R1 g1
    clear hW0 hW1 HC1 g1 R1
    go_wp2_with fail
    refine (C2.out w1 S1.rdr).mono ?_
    rintro r w2 ⟨rfl, R2, g2⟩
    have S2 := HStep.out _ _ _ _ _ _ S1 R2 g2
    clear R2 g2 S1 C2
    go_wp2_with fail
    refine (C3.out w2 S2.rdr).mono ?_
    rintro r w3 ⟨rfl, R3, g3⟩
    have S3 := HStep.out _ _ _ _ _ _ S2 R3 g3
    clear R3 g3 S2 C3
    go_wp2_with fail
    refine (C4.out w3 S3.rdr).mono ?_
    rintro r w4 ⟨rfl, R4, g4⟩
    have S4 := HStep.out _ _ _ _ _ _ S3 R4 g4
    clear R4 g4 S3 C4
    go_wp2_with fail
    refine (C5.out w4 S4.rdr).mono ?_
    rintro r w5 ⟨rfl, R5, g5⟩
    have S5 := HStep.out _ _ _ _ _ _ S4 R5 g5
    clear R5 g5 S4 C5
    go_wp2_with fail
    refine (C6.out w5 S5.rdr).mono ?_
    rintro r w6 ⟨rfl, R6, g6⟩
    have S6 := HStep.out _ _ _ _ _ _ S5 R6 g6
    clear R6 g6 S5 C6
    obtain ⟨W7, hW7⟩ : ∃ X, X = w6.alloc (.cells #[.int .i64 p1.1, .int .i64 p2.1, .string p3.1, .int .i64 p4.1, .string p5.1, .string p6.1, .bool false, .bool false] 28) := ⟨_, rfl⟩
    have b7 : Below w6.heap.size w6 W7 := by rw [hW7]; exact (Below.refl _ _).alloc (Nat.le_refl _) _
    have s6 := S6.sz
    have R7 := Rdr.grown S6.rdr b7
    have K7 := kept b7 S6.out (Nat.le_refl _)
    have L7 : W7.heap[w6.heap.size]? = some (.cells #[.int .i64 p1.1, .int .i64 p2.1, .string p3.1, .int .i64 p4.1, .string p5.1, .string p6.1, .bool false, .bool false] 28 (0, 0)) := by rw [hW7]; exact heap_alloc_new w6 _
    have B7 : Below w.heap.size w W7 := S6.bel.trans (b7.mono S6.bel.size)
    have e1 : W7.cell? ⟨w.heap.size + 1, 1, none⟩ = some (.int .i64 A) := cell_of R7.1 rfl
    have e2 := cell_of (i := 2) R7.1 rfl
    have KK := K7
    have BB := B7
    have r0 := cell_of (i := 0) KK rfl
    have u0 := frozen_of KK 0
    have r1 := cell_of (i := 1) KK rfl
    have u1 := frozen_of KK 1
    have r2 := cell_of (i := 2) KK rfl
    have u2 := frozen_of KK 2
    have r3 := cell_of (i := 3) KK rfl
    have u3 := frozen_of KK 3
    have r4 := cell_of (i := 4) KK rfl
    have u4 := frozen_of KK 4
    have r5 := cell_of (i := 5) KK rfl
    have u5 := frozen_of KK 5
    have r6 := cell_of (i := 6) KK rfl
    have u6 := frozen_of KK 6
    have r7 := cell_of (i := 7) KK rfl
    have u7 := frozen_of KK 7
    have HS := eight_sets KK (.int .i64 0) (.int .i64 0) (.string ⟨#[]⟩) (.int .i64 0) (.string ⟨#[]⟩) (.string ⟨#[]⟩) (.bool false) (.bool false)
    obtain ⟨X, hX⟩ : ∃ x, x = ((((((((W7.setCell ⟨w.heap.size, 0, none⟩ (.int .i64 0)).setCell ⟨w.heap.size, 1, none⟩ (.int .i64 0)).setCell ⟨w.heap.size, 2, none⟩ (.string ⟨#[]⟩)).setCell ⟨w.heap.size, 3, none⟩ (.int .i64 0)).setCell ⟨w.heap.size, 4, none⟩ (.string ⟨#[]⟩)).setCell ⟨w.heap.size, 5, none⟩ (.string ⟨#[]⟩)).setCell ⟨w.heap.size, 6, none⟩ (.bool false)).setCell ⟨w.heap.size, 7, none⟩ (.bool false)) := ⟨_, rfl⟩
    rw [← hX] at HS
    have HEnd : Hid (Below w.heap.size w X) := BB.grown HS.2 BB.size (fun k hk => by simp only [Option.some.injEq] at hk; omega)
    have t0 : X.cell? ⟨w.heap.size, 0, none⟩ = some (.int .i64 0) := cell_of HS.1 rfl
    have t1 : X.cell? ⟨w.heap.size, 1, none⟩ = some (.int .i64 0) := cell_of HS.1 rfl
    have t2 : X.cell? ⟨w.heap.size, 2, none⟩ = some (.string ⟨#[]⟩) := cell_of HS.1 rfl
    have t3 : X.cell? ⟨w.heap.size, 3, none⟩ = some (.int .i64 0) := cell_of HS.1 rfl
    have t4 : X.cell? ⟨w.heap.size, 4, none⟩ = some (.string ⟨#[]⟩) := cell_of HS.1 rfl
    have t5 : X.cell? ⟨w.heap.size, 5, none⟩ = some (.string ⟨#[]⟩) := cell_of HS.1 rfl
    have t6 : X.cell? ⟨w.heap.size, 6, none⟩ = some (.bool false) := cell_of HS.1 rfl
    have t7 : X.cell? ⟨w.heap.size, 7, none⟩ = some (.bool false) := cell_of HS.1 rfl
    rw [hX] at t0 t1 t2 t3 t4 t5 t6 t7 HEnd
    clear hX HS KK BB
    rw [hW7] at e1 e2 r0 u0 t0 r1 u1 t1 r2 u2 t2 r3 u3 t3 r4 u4 t4 r5 u5 t5 r6 u6 t6 r7 u7 t7 HEnd
    clear hW7 K7 L7 B7 b7 R7 S6 s6
    go_wp2
    exact bodyPost_ret (v := .tuple #[zeroJ, .int .i64 3]) (by simp [results, Try.results12, go_sem, zeroJ, t0, t1, t2, t3, t4, t5, t6, t7]) rfl ⟨rfl, HEnd.out⟩
  have hne : ((A : Int) != (xs.length : Int) - 1) = false := by simp; omega
  obtain ⟨B, off, rfl⟩ : ∃ B off, ao = some ⟨B, off, none⟩ := by
    obtain ⟨⟨ao', cap', e, _, _, _, h5⟩, _⟩ := HR0.out
    simp only [Value.slice.injEq, true_and] at e
    obtain ⟨rfl, rfl⟩ := e
    obtain ⟨B', off', e', _⟩ := h5 (by omega)
    exact ⟨B', off', e'⟩
  by_cases h3 : 3 < f
  · have hb : badJ xs = true := by rw [HBad.out]; simp [h3]
    rw [(read_bad HL.out hb).1, (read_bad HL.out hb).2]
    clear hb HGood HBad
    go_enter Try.func12, Try.ntmps12
    go_wp2_with fail
    refine HC1.mono ?_
    rw [← hW0, ← hW1]
    rintro r w1 ⟨rfl, R1, g1⟩
    have S1 := HStep.out _ _ _ _ _ _ HW1.out R1 g1
    clear hW0 hW1 HC1 g1 R1
    go_wp2_with fail
    refine (C2.out w1 S1.rdr).mono ?_
    rintro r w2 ⟨rfl, R2, g2⟩
    have S2 := HStep.out _ _ _ _ _ _ S1 R2 g2
    clear R2 g2 S1 C2
    go_wp2_with fail
    refine (C3.out w2 S2.rdr).mono ?_
    rintro r w3 ⟨rfl, R3, g3⟩
    have S3 := HStep.out _ _ _ _ _ _ S2 R3 g3
    clear R3 g3 S2 C3
    go_wp2_with fail
    refine (C4.out w3 S3.rdr).mono ?_
    rintro r w4 ⟨rfl, R4, g4⟩
    have S4 := HStep.out _ _ _ _ _ _ S3 R4 g4
    clear R4 g4 S3 C4
    go_wp2_with fail
    refine (C5.out w4 S4.rdr).mono ?_
    rintro r w5 ⟨rfl, R5, g5⟩
    have S5 := HStep.out _ _ _ _ _ _ S4 R5 g5
    clear R5 g5 S4 C5
    go_wp2_with fail
    refine (C6.out w5 S5.rdr).mono ?_
    rintro r w6 ⟨rfl, R6, g6⟩
    have S6 := HStep.out _ _ _ _ _ _ S5 R6 g6
    clear R6 g6 S5 C6
    obtain ⟨W7, hW7⟩ : ∃ X, X = w6.alloc (.cells #[.int .i64 p1.1, .int .i64 p2.1, .string p3.1, .int .i64 p4.1, .string p5.1, .string p6.1, .bool false, .bool false] 28) := ⟨_, rfl⟩
    have b7 : Below w6.heap.size w6 W7 := by rw [hW7]; exact (Below.refl _ _).alloc (Nat.le_refl _) _
    have s6 := S6.sz
    have R7 := Rdr.grown S6.rdr b7
    have K7 := kept b7 S6.out (Nat.le_refl _)
    have L7 : W7.heap[w6.heap.size]? = some (.cells #[.int .i64 p1.1, .int .i64 p2.1, .string p3.1, .int .i64 p4.1, .string p5.1, .string p6.1, .bool false, .bool false] 28 (0, 0)) := by rw [hW7]; exact heap_alloc_new w6 _
    have B7 : Below w.heap.size w W7 := S6.bel.trans (b7.mono S6.bel.size)
    have e1 : W7.cell? ⟨w.heap.size + 1, 1, none⟩ = some (.int .i64 A) := cell_of R7.1 rfl
    have e2 := cell_of (i := 2) R7.1 rfl
    have q7 : W7.cell? ⟨B, off + A, none⟩ = some (.int .u8 f) := by
      obtain ⟨⟨ao', cap', e, _, _, _, h5⟩, _⟩ := R7.2.2
      simp only [Value.slice.injEq, true_and] at e
      obtain ⟨rfl, rfl⟩ := e
      obtain ⟨B', off', e', hc'⟩ := h5 (by omega)
      simp only [Option.some.injEq, Addr.mk.injEq, and_true] at e'
      obtain ⟨rfl, rfl⟩ := e'
      rw [HF.out]
      exact hc' A (by omega)
    have KK := K7
    have BB := B7
    have r0 := cell_of (i := 0) KK rfl
    have u0 := frozen_of KK 0
    have r1 := cell_of (i := 1) KK rfl
    have u1 := frozen_of KK 1
    have r2 := cell_of (i := 2) KK rfl
    have u2 := frozen_of KK 2
    have r3 := cell_of (i := 3) KK rfl
    have u3 := frozen_of KK 3
    have r4 := cell_of (i := 4) KK rfl
    have u4 := frozen_of KK 4
    have r5 := cell_of (i := 5) KK rfl
    have u5 := frozen_of KK 5
    have r6 := cell_of (i := 6) KK rfl
    have u6 := frozen_of KK 6
    have r7 := cell_of (i := 7) KK rfl
    have u7 := frozen_of KK 7
    have HS := eight_sets KK (.int .i64 0) (.int .i64 0) (.string ⟨#[]⟩) (.int .i64 0) (.string ⟨#[]⟩) (.string ⟨#[]⟩) (.bool false) (.bool false)
    obtain ⟨X, hX⟩ : ∃ x, x = ((((((((W7.setCell ⟨w.heap.size, 0, none⟩ (.int .i64 0)).setCell ⟨w.heap.size, 1, none⟩ (.int .i64 0)).setCell ⟨w.heap.size, 2, none⟩ (.string ⟨#[]⟩)).setCell ⟨w.heap.size, 3, none⟩ (.int .i64 0)).setCell ⟨w.heap.size, 4, none⟩ (.string ⟨#[]⟩)).setCell ⟨w.heap.size, 5, none⟩ (.string ⟨#[]⟩)).setCell ⟨w.heap.size, 6, none⟩ (.bool false)).setCell ⟨w.heap.size, 7, none⟩ (.bool false)) := ⟨_, rfl⟩
    rw [← hX] at HS
    have HEnd : Hid (Below w.heap.size w X) := BB.grown HS.2 BB.size (fun k hk => by simp only [Option.some.injEq] at hk; omega)
    have t0 : X.cell? ⟨w.heap.size, 0, none⟩ = some (.int .i64 0) := cell_of HS.1 rfl
    have t1 : X.cell? ⟨w.heap.size, 1, none⟩ = some (.int .i64 0) := cell_of HS.1 rfl
    have t2 : X.cell? ⟨w.heap.size, 2, none⟩ = some (.string ⟨#[]⟩) := cell_of HS.1 rfl
    have t3 : X.cell? ⟨w.heap.size, 3, none⟩ = some (.int .i64 0) := cell_of HS.1 rfl
    have t4 : X.cell? ⟨w.heap.size, 4, none⟩ = some (.string ⟨#[]⟩) := cell_of HS.1 rfl
    have t5 : X.cell? ⟨w.heap.size, 5, none⟩ = some (.string ⟨#[]⟩) := cell_of HS.1 rfl
    have t6 : X.cell? ⟨w.heap.size, 6, none⟩ = some (.bool false) := cell_of HS.1 rfl
    have t7 : X.cell? ⟨w.heap.size, 7, none⟩ = some (.bool false) := cell_of HS.1 rfl
    rw [hX] at t0 t1 t2 t3 t4 t5 t6 t7 HEnd
    clear hX HS KK BB
    rw [hW7] at e1 e2 q7 r0 u0 t0 r1 u1 t1 r2 u2 t2 r3 u3 t3 r4 u4 t4 r5 u5 t5 r6 u6 t6 r7 u7 t7 HEnd
    clear hW7 K7 L7 B7 b7 R7 S6 s6
    go_wp2
    exact bodyPost_ret (v := .tuple #[zeroJ, .int .i64 3]) (by simp [results, Try.results12, go_sem, zeroJ, t0, t1, t2, t3, t4, t5, t6, t7]) rfl ⟨rfl, HEnd.out⟩
  have hb : badJ xs = false := by rw [HBad.out]; simp [hend]; omega
  have HJJ : Hid (jI xs = ⟨p1.1, p2.1, p3.1, p4.1, p5.1, p6.1, A, false⟩) := HGood.out hb
  have HRt : Hid (rightJ xs = jobB p1.1 p2.1 p3.1.size p4.1 p5.1.size p6.1.size) := by unfold Hid rightJ; rw [HJJ.out]
  have HFl : Hid (flV xs (jI xs).a = f) := by unfold Hid; rw [HJJ.out]; unfold flV; rw [if_pos hend, HF.out]
  have hf4 : f = 0 ∨ f = 1 ∨ f = 2 ∨ f = 3 := by omega
  clear HGood HBad h3
  rcases hf4 with rfl | rfl | rfl | rfl
  · rcases Bool.eq_false_or_eq_true (rightJ xs) with hR | hR
    rotate_left
    · rw [(read_wrong HL.out hb hR).1, (read_wrong HL.out hb hR).2]
      go_enter Try.func12, Try.ntmps12
      go_wp2_with fail
      refine HC1.mono ?_
      rw [← hW0, ← hW1]
      rintro r w1 ⟨rfl, R1, g1⟩
      have S1 := HStep.out _ _ _ _ _ _ HW1.out R1 g1
      clear hW0 hW1 HC1 g1 R1
      go_wp2_with fail
      refine (C2.out w1 S1.rdr).mono ?_
      rintro r w2 ⟨rfl, R2, g2⟩
      have S2 := HStep.out _ _ _ _ _ _ S1 R2 g2
      clear R2 g2 S1 C2
      go_wp2_with fail
      refine (C3.out w2 S2.rdr).mono ?_
      rintro r w3 ⟨rfl, R3, g3⟩
      have S3 := HStep.out _ _ _ _ _ _ S2 R3 g3
      clear R3 g3 S2 C3
      go_wp2_with fail
      refine (C4.out w3 S3.rdr).mono ?_
      rintro r w4 ⟨rfl, R4, g4⟩
      have S4 := HStep.out _ _ _ _ _ _ S3 R4 g4
      clear R4 g4 S3 C4
      go_wp2_with fail
      refine (C5.out w4 S4.rdr).mono ?_
      rintro r w5 ⟨rfl, R5, g5⟩
      have S5 := HStep.out _ _ _ _ _ _ S4 R5 g5
      clear R5 g5 S4 C5
      go_wp2_with fail
      refine (C6.out w5 S5.rdr).mono ?_
      rintro r w6 ⟨rfl, R6, g6⟩
      have S6 := HStep.out _ _ _ _ _ _ S5 R6 g6
      clear R6 g6 S5 C6
      have s6 := S6.sz
      have hBw : B < w.heap.size := by
        obtain ⟨⟨ao', cap', e, _, _, _, h5⟩, _⟩ := HR0.out
        simp only [Value.slice.injEq, true_and] at e
        obtain ⟨rfl, rfl⟩ := e
        obtain ⟨B', off', e', hc'⟩ := h5 (by omega)
        simp only [Option.some.injEq, Addr.mk.injEq, and_true] at e'
        obtain ⟨rfl, rfl⟩ := e'
        exact cell_lt (hc' A (by omega))
      have q6 : w6.cell? ⟨B, off + A, none⟩ = some (.int .u8 0) := by
        obtain ⟨⟨ao', cap', e, _, _, _, h5⟩, _⟩ := S6.rdr.2.2
        simp only [Value.slice.injEq, true_and] at e
        obtain ⟨rfl, rfl⟩ := e
        obtain ⟨B', off', e', hc'⟩ := h5 (by omega)
        simp only [Option.some.injEq, Addr.mk.injEq, and_true] at e'
        obtain ⟨rfl, rfl⟩ := e'
        rw [HF.out]
        exact hc' A (by omega)
      have E1 : ∀ o, (w6.alloc o).cell? ⟨w.heap.size + 1, 1, none⟩ = some (.int .i64 A) := fun o => cell_at (more (Below.refl _ _) o) (cell_of S6.rdr.1 rfl) (Nat.le_refl _)
      have E2 : ∀ o, (w6.alloc o).cell? ⟨w.heap.size + 1, 2, none⟩ = some (.bool false) := fun o => cell_at (more (Below.refl _ _) o) (cell_of S6.rdr.1 rfl) (Nat.le_refl _)
      have E3 : ∀ o, (w6.alloc o).cell? ⟨B, off + A, none⟩ = some (.int .u8 0) := fun o => cell_at (more (Below.refl _ _) o) q6 (Nat.le_refl _)
      obtain ⟨W9, hW9⟩ : ∃ X, X = w6.alloc (.cells #[.int .i64 p1.1, .int .i64 p2.1, .string p3.1, .int .i64 p4.1, .string p5.1, .string p6.1, .bool false, .bool false] 28) := ⟨_, rfl⟩
      have b9 : Below w6.heap.size w6 W9 := by rw [hW9]; exact (Below.refl _ _).alloc (Nat.le_refl _) _
      have K9 := kept b9 S6.out (Nat.le_refl _)
      have L9 : W9.heap[w6.heap.size]? = some (.cells #[.int .i64 p1.1, .int .i64 p2.1, .string p3.1, .int .i64 p4.1, .string p5.1, .string p6.1, .bool false, .bool false] 28 (0, 0)) := by rw [hW9]; exact heap_alloc_new w6 _
      have B9 : Below w.heap.size w W9 := S6.bel.trans (b9.mono S6.bel.size)
      have HOK := specOK W9 p1.1 p2.1 p3.1 p4.1 p5.1 p6.1 false false HSz.out.1 HSz.out.2.1 HSz.out.2.2
      rw [← HRt.out, hR] at HOK
      have H9 : Hid (Below w.heap.size w W9 ∧ W9.heap[w.heap.size]? = some (.cells #[.int .i64 0, .int .i64 0, .string ⟨#[]⟩, .int .i64 0, .string ⟨#[]⟩, .string ⟨#[]⟩, .bool false, .bool false] 28 (0, 0)) ∧ W9.heap[w6.heap.size]? = some (.cells #[.int .i64 p1.1, .int .i64 p2.1, .string p3.1, .int .i64 p4.1, .string p5.1, .string p6.1, .bool false, .bool false] 28 (0, 0))) := ⟨B9, K9, L9⟩
      have hWW : Hid (W9 = w6.alloc (.cells #[.int .i64 p1.1, .int .i64 p2.1, .string p3.1, .int .i64 p4.1, .string p5.1, .string p6.1, .bool false, .bool false] 28)) := hW9
      rw [hW9] at HOK
      clear hBw q6 b9 K9 L9 B9 S6 hW9
      go_wp2_with fail
      refine HOK.mono ?_
      rw [← hWW.out]
      rintro r w10 ⟨rfl, b10⟩
      have KK := kept b10 H9.out.2.1 (Nat.le_refl _)
      have JJ := kept b10 H9.out.2.2 (Nat.le_refl _)
      have BB : Below w.heap.size w w10 := H9.out.1.trans (b10.mono H9.out.1.size)
      clear HOK E1 E2 E3 b10
      clear JJ
      have r0 := cell_of (i := 0) KK rfl
      have u0 := frozen_of KK 0
      have r1 := cell_of (i := 1) KK rfl
      have u1 := frozen_of KK 1
      have r2 := cell_of (i := 2) KK rfl
      have u2 := frozen_of KK 2
      have r3 := cell_of (i := 3) KK rfl
      have u3 := frozen_of KK 3
      have r4 := cell_of (i := 4) KK rfl
      have u4 := frozen_of KK 4
      have r5 := cell_of (i := 5) KK rfl
      have u5 := frozen_of KK 5
      have r6 := cell_of (i := 6) KK rfl
      have u6 := frozen_of KK 6
      have r7 := cell_of (i := 7) KK rfl
      have u7 := frozen_of KK 7
      have HS := eight_sets KK (.int .i64 0) (.int .i64 0) (.string ⟨#[]⟩) (.int .i64 0) (.string ⟨#[]⟩) (.string ⟨#[]⟩) (.bool false) (.bool false)
      obtain ⟨X, hX⟩ : ∃ x, x = ((((((((w10.setCell ⟨w.heap.size, 0, none⟩ (.int .i64 0)).setCell ⟨w.heap.size, 1, none⟩ (.int .i64 0)).setCell ⟨w.heap.size, 2, none⟩ (.string ⟨#[]⟩)).setCell ⟨w.heap.size, 3, none⟩ (.int .i64 0)).setCell ⟨w.heap.size, 4, none⟩ (.string ⟨#[]⟩)).setCell ⟨w.heap.size, 5, none⟩ (.string ⟨#[]⟩)).setCell ⟨w.heap.size, 6, none⟩ (.bool false)).setCell ⟨w.heap.size, 7, none⟩ (.bool false)) := ⟨_, rfl⟩
      rw [← hX] at HS
      have HEnd : Hid (Below w.heap.size w X) := BB.grown HS.2 BB.size (fun k hk => by simp only [Option.some.injEq] at hk; omega)
      have t0 : X.cell? ⟨w.heap.size, 0, none⟩ = some (.int .i64 0) := cell_of HS.1 rfl
      have t1 : X.cell? ⟨w.heap.size, 1, none⟩ = some (.int .i64 0) := cell_of HS.1 rfl
      have t2 : X.cell? ⟨w.heap.size, 2, none⟩ = some (.string ⟨#[]⟩) := cell_of HS.1 rfl
      have t3 : X.cell? ⟨w.heap.size, 3, none⟩ = some (.int .i64 0) := cell_of HS.1 rfl
      have t4 : X.cell? ⟨w.heap.size, 4, none⟩ = some (.string ⟨#[]⟩) := cell_of HS.1 rfl
      have t5 : X.cell? ⟨w.heap.size, 5, none⟩ = some (.string ⟨#[]⟩) := cell_of HS.1 rfl
      have t6 : X.cell? ⟨w.heap.size, 6, none⟩ = some (.bool false) := cell_of HS.1 rfl
      have t7 : X.cell? ⟨w.heap.size, 7, none⟩ = some (.bool false) := cell_of HS.1 rfl
      rw [hX] at t0 t1 t2 t3 t4 t5 t6 t7 HEnd
      clear hX HS KK BB
      go_wp2
      exact bodyPost_ret (v := .tuple #[zeroJ, .int .i64 1]) (by simp [results, Try.results12, go_sem, zeroJ, t0, t1, t2, t3, t4, t5, t6, t7]) rfl ⟨rfl, HEnd.out⟩
    · have HV : Hid (jobV (jI xs) (flV xs (jI xs).a) = .agg #[.int .i64 p1.1, .int .i64 p2.1, .string p3.1, .int .i64 p4.1, .string p5.1, .string p6.1, .bool false, .bool false]) := by unfold Hid jobV; rw [HFl.out, HJJ.out]; rfl
      rw [(read_right HL.out hb hR).1, (read_right HL.out hb hR).2, HV.out]
      go_enter Try.func12, Try.ntmps12
      go_wp2_with fail
      refine HC1.mono ?_
      rw [← hW0, ← hW1]
      rintro r w1 ⟨rfl, R1, g1⟩
      have S1 := HStep.out _ _ _ _ _ _ HW1.out R1 g1
      clear hW0 hW1 HC1 g1 R1
      go_wp2_with fail
      refine (C2.out w1 S1.rdr).mono ?_
      rintro r w2 ⟨rfl, R2, g2⟩
      have S2 := HStep.out _ _ _ _ _ _ S1 R2 g2
      clear R2 g2 S1 C2
      go_wp2_with fail
      refine (C3.out w2 S2.rdr).mono ?_
      rintro r w3 ⟨rfl, R3, g3⟩
      have S3 := HStep.out _ _ _ _ _ _ S2 R3 g3
      clear R3 g3 S2 C3
      go_wp2_with fail
      refine (C4.out w3 S3.rdr).mono ?_
      rintro r w4 ⟨rfl, R4, g4⟩
      have S4 := HStep.out _ _ _ _ _ _ S3 R4 g4
      clear R4 g4 S3 C4
      go_wp2_with fail
      refine (C5.out w4 S4.rdr).mono ?_
      rintro r w5 ⟨rfl, R5, g5⟩
      have S5 := HStep.out _ _ _ _ _ _ S4 R5 g5
      clear R5 g5 S4 C5
      go_wp2_with fail
      refine (C6.out w5 S5.rdr).mono ?_
      rintro r w6 ⟨rfl, R6, g6⟩
      have S6 := HStep.out _ _ _ _ _ _ S5 R6 g6
      clear R6 g6 S5 C6
      have s6 := S6.sz
      have hBw : B < w.heap.size := by
        obtain ⟨⟨ao', cap', e, _, _, _, h5⟩, _⟩ := HR0.out
        simp only [Value.slice.injEq, true_and] at e
        obtain ⟨rfl, rfl⟩ := e
        obtain ⟨B', off', e', hc'⟩ := h5 (by omega)
        simp only [Option.some.injEq, Addr.mk.injEq, and_true] at e'
        obtain ⟨rfl, rfl⟩ := e'
        exact cell_lt (hc' A (by omega))
      have q6 : w6.cell? ⟨B, off + A, none⟩ = some (.int .u8 0) := by
        obtain ⟨⟨ao', cap', e, _, _, _, h5⟩, _⟩ := S6.rdr.2.2
        simp only [Value.slice.injEq, true_and] at e
        obtain ⟨rfl, rfl⟩ := e
        obtain ⟨B', off', e', hc'⟩ := h5 (by omega)
        simp only [Option.some.injEq, Addr.mk.injEq, and_true] at e'
        obtain ⟨rfl, rfl⟩ := e'
        rw [HF.out]
        exact hc' A (by omega)
      have E1 : ∀ o, (w6.alloc o).cell? ⟨w.heap.size + 1, 1, none⟩ = some (.int .i64 A) := fun o => cell_at (more (Below.refl _ _) o) (cell_of S6.rdr.1 rfl) (Nat.le_refl _)
      have E2 : ∀ o, (w6.alloc o).cell? ⟨w.heap.size + 1, 2, none⟩ = some (.bool false) := fun o => cell_at (more (Below.refl _ _) o) (cell_of S6.rdr.1 rfl) (Nat.le_refl _)
      have E3 : ∀ o, (w6.alloc o).cell? ⟨B, off + A, none⟩ = some (.int .u8 0) := fun o => cell_at (more (Below.refl _ _) o) q6 (Nat.le_refl _)
      obtain ⟨W9, hW9⟩ : ∃ X, X = w6.alloc (.cells #[.int .i64 p1.1, .int .i64 p2.1, .string p3.1, .int .i64 p4.1, .string p5.1, .string p6.1, .bool false, .bool false] 28) := ⟨_, rfl⟩
      have b9 : Below w6.heap.size w6 W9 := by rw [hW9]; exact (Below.refl _ _).alloc (Nat.le_refl _) _
      have K9 := kept b9 S6.out (Nat.le_refl _)
      have L9 : W9.heap[w6.heap.size]? = some (.cells #[.int .i64 p1.1, .int .i64 p2.1, .string p3.1, .int .i64 p4.1, .string p5.1, .string p6.1, .bool false, .bool false] 28 (0, 0)) := by rw [hW9]; exact heap_alloc_new w6 _
      have B9 : Below w.heap.size w W9 := S6.bel.trans (b9.mono S6.bel.size)
      have HOK := specOK W9 p1.1 p2.1 p3.1 p4.1 p5.1 p6.1 false false HSz.out.1 HSz.out.2.1 HSz.out.2.2
      rw [← HRt.out, hR] at HOK
      have H9 : Hid (Below w.heap.size w W9 ∧ W9.heap[w.heap.size]? = some (.cells #[.int .i64 0, .int .i64 0, .string ⟨#[]⟩, .int .i64 0, .string ⟨#[]⟩, .string ⟨#[]⟩, .bool false, .bool false] 28 (0, 0)) ∧ W9.heap[w6.heap.size]? = some (.cells #[.int .i64 p1.1, .int .i64 p2.1, .string p3.1, .int .i64 p4.1, .string p5.1, .string p6.1, .bool false, .bool false] 28 (0, 0))) := ⟨B9, K9, L9⟩
      have hWW : Hid (W9 = w6.alloc (.cells #[.int .i64 p1.1, .int .i64 p2.1, .string p3.1, .int .i64 p4.1, .string p5.1, .string p6.1, .bool false, .bool false] 28)) := hW9
      rw [hW9] at HOK
      clear hBw q6 b9 K9 L9 B9 S6 hW9
      go_wp2_with fail
      refine HOK.mono ?_
      rw [← hWW.out]
      rintro r w10 ⟨rfl, b10⟩
      have KK := kept b10 H9.out.2.1 (Nat.le_refl _)
      have JJ := kept b10 H9.out.2.2 (Nat.le_refl _)
      have BB : Below w.heap.size w w10 := H9.out.1.trans (b10.mono H9.out.1.size)
      clear HOK E1 E2 E3 b10
      have o0 := cell_of (i := 0) JJ rfl
      have o1 := cell_of (i := 1) JJ rfl
      have o2 := cell_of (i := 2) JJ rfl
      have o3 := cell_of (i := 3) JJ rfl
      have o4 := cell_of (i := 4) JJ rfl
      have o5 := cell_of (i := 5) JJ rfl
      have o6 := cell_of (i := 6) JJ rfl
      have o7 := cell_of (i := 7) JJ rfl
      clear JJ
      have r0 := cell_of (i := 0) KK rfl
      have u0 := frozen_of KK 0
      have r1 := cell_of (i := 1) KK rfl
      have u1 := frozen_of KK 1
      have r2 := cell_of (i := 2) KK rfl
      have u2 := frozen_of KK 2
      have r3 := cell_of (i := 3) KK rfl
      have u3 := frozen_of KK 3
      have r4 := cell_of (i := 4) KK rfl
      have u4 := frozen_of KK 4
      have r5 := cell_of (i := 5) KK rfl
      have u5 := frozen_of KK 5
      have r6 := cell_of (i := 6) KK rfl
      have u6 := frozen_of KK 6
      have r7 := cell_of (i := 7) KK rfl
      have u7 := frozen_of KK 7
      have HS := eight_sets KK (.int .i64 p1.1) (.int .i64 p2.1) (.string p3.1) (.int .i64 p4.1) (.string p5.1) (.string p6.1) (.bool false) (.bool false)
      obtain ⟨X, hX⟩ : ∃ x, x = ((((((((w10.setCell ⟨w.heap.size, 0, none⟩ (.int .i64 p1.1)).setCell ⟨w.heap.size, 1, none⟩ (.int .i64 p2.1)).setCell ⟨w.heap.size, 2, none⟩ (.string p3.1)).setCell ⟨w.heap.size, 3, none⟩ (.int .i64 p4.1)).setCell ⟨w.heap.size, 4, none⟩ (.string p5.1)).setCell ⟨w.heap.size, 5, none⟩ (.string p6.1)).setCell ⟨w.heap.size, 6, none⟩ (.bool false)).setCell ⟨w.heap.size, 7, none⟩ (.bool false)) := ⟨_, rfl⟩
      rw [← hX] at HS
      have HEnd : Hid (Below w.heap.size w X) := BB.grown HS.2 BB.size (fun k hk => by simp only [Option.some.injEq] at hk; omega)
      have t0 : X.cell? ⟨w.heap.size, 0, none⟩ = some (.int .i64 p1.1) := cell_of HS.1 rfl
      have t1 : X.cell? ⟨w.heap.size, 1, none⟩ = some (.int .i64 p2.1) := cell_of HS.1 rfl
      have t2 : X.cell? ⟨w.heap.size, 2, none⟩ = some (.string p3.1) := cell_of HS.1 rfl
      have t3 : X.cell? ⟨w.heap.size, 3, none⟩ = some (.int .i64 p4.1) := cell_of HS.1 rfl
      have t4 : X.cell? ⟨w.heap.size, 4, none⟩ = some (.string p5.1) := cell_of HS.1 rfl
      have t5 : X.cell? ⟨w.heap.size, 5, none⟩ = some (.string p6.1) := cell_of HS.1 rfl
      have t6 : X.cell? ⟨w.heap.size, 6, none⟩ = some (.bool false) := cell_of HS.1 rfl
      have t7 : X.cell? ⟨w.heap.size, 7, none⟩ = some (.bool false) := cell_of HS.1 rfl
      rw [hX] at t0 t1 t2 t3 t4 t5 t6 t7 HEnd
      clear hX HS KK BB
      go_wp2
      exact bodyPost_ret (v := .tuple #[.agg #[.int .i64 p1.1, .int .i64 p2.1, .string p3.1, .int .i64 p4.1, .string p5.1, .string p6.1, .bool false, .bool false], .int .i64 0]) (by simp [results, Try.results12, go_sem, t0, t1, t2, t3, t4, t5, t6, t7]) rfl ⟨rfl, HEnd.out⟩
  · rcases Bool.eq_false_or_eq_true (rightJ xs) with hR | hR
    rotate_left
    · rw [(read_wrong HL.out hb hR).1, (read_wrong HL.out hb hR).2]
      go_enter Try.func12, Try.ntmps12
      go_wp2_with fail
      refine HC1.mono ?_
      rw [← hW0, ← hW1]
      rintro r w1 ⟨rfl, R1, g1⟩
      have S1 := HStep.out _ _ _ _ _ _ HW1.out R1 g1
      clear hW0 hW1 HC1 g1 R1
      go_wp2_with fail
      refine (C2.out w1 S1.rdr).mono ?_
      rintro r w2 ⟨rfl, R2, g2⟩
      have S2 := HStep.out _ _ _ _ _ _ S1 R2 g2
      clear R2 g2 S1 C2
      go_wp2_with fail
      refine (C3.out w2 S2.rdr).mono ?_
      rintro r w3 ⟨rfl, R3, g3⟩
      have S3 := HStep.out _ _ _ _ _ _ S2 R3 g3
      clear R3 g3 S2 C3
      go_wp2_with fail
      refine (C4.out w3 S3.rdr).mono ?_
      rintro r w4 ⟨rfl, R4, g4⟩
      have S4 := HStep.out _ _ _ _ _ _ S3 R4 g4
      clear R4 g4 S3 C4
      go_wp2_with fail
      refine (C5.out w4 S4.rdr).mono ?_
      rintro r w5 ⟨rfl, R5, g5⟩
      have S5 := HStep.out _ _ _ _ _ _ S4 R5 g5
      clear R5 g5 S4 C5
      go_wp2_with fail
      refine (C6.out w5 S5.rdr).mono ?_
      rintro r w6 ⟨rfl, R6, g6⟩
      have S6 := HStep.out _ _ _ _ _ _ S5 R6 g6
      clear R6 g6 S5 C6
      have s6 := S6.sz
      have hBw : B < w.heap.size := by
        obtain ⟨⟨ao', cap', e, _, _, _, h5⟩, _⟩ := HR0.out
        simp only [Value.slice.injEq, true_and] at e
        obtain ⟨rfl, rfl⟩ := e
        obtain ⟨B', off', e', hc'⟩ := h5 (by omega)
        simp only [Option.some.injEq, Addr.mk.injEq, and_true] at e'
        obtain ⟨rfl, rfl⟩ := e'
        exact cell_lt (hc' A (by omega))
      have q6 : w6.cell? ⟨B, off + A, none⟩ = some (.int .u8 1) := by
        obtain ⟨⟨ao', cap', e, _, _, _, h5⟩, _⟩ := S6.rdr.2.2
        simp only [Value.slice.injEq, true_and] at e
        obtain ⟨rfl, rfl⟩ := e
        obtain ⟨B', off', e', hc'⟩ := h5 (by omega)
        simp only [Option.some.injEq, Addr.mk.injEq, and_true] at e'
        obtain ⟨rfl, rfl⟩ := e'
        rw [HF.out]
        exact hc' A (by omega)
      have E1 : ∀ o, (w6.alloc o).cell? ⟨w.heap.size + 1, 1, none⟩ = some (.int .i64 A) := fun o => cell_at (more (Below.refl _ _) o) (cell_of S6.rdr.1 rfl) (Nat.le_refl _)
      have E2 : ∀ o, (w6.alloc o).cell? ⟨w.heap.size + 1, 2, none⟩ = some (.bool false) := fun o => cell_at (more (Below.refl _ _) o) (cell_of S6.rdr.1 rfl) (Nat.le_refl _)
      have E3 : ∀ o, (w6.alloc o).cell? ⟨B, off + A, none⟩ = some (.int .u8 1) := fun o => cell_at (more (Below.refl _ _) o) q6 (Nat.le_refl _)
      obtain ⟨W9, hW9⟩ : ∃ X, X = w6.alloc (.cells #[.int .i64 p1.1, .int .i64 p2.1, .string p3.1, .int .i64 p4.1, .string p5.1, .string p6.1, .bool true, .bool false] 28) := ⟨_, rfl⟩
      have b9 : Below w6.heap.size w6 W9 := by rw [hW9]; exact (Below.refl _ _).alloc (Nat.le_refl _) _
      have K9 := kept b9 S6.out (Nat.le_refl _)
      have L9 : W9.heap[w6.heap.size]? = some (.cells #[.int .i64 p1.1, .int .i64 p2.1, .string p3.1, .int .i64 p4.1, .string p5.1, .string p6.1, .bool true, .bool false] 28 (0, 0)) := by rw [hW9]; exact heap_alloc_new w6 _
      have B9 : Below w.heap.size w W9 := S6.bel.trans (b9.mono S6.bel.size)
      have HOK := specOK W9 p1.1 p2.1 p3.1 p4.1 p5.1 p6.1 true false HSz.out.1 HSz.out.2.1 HSz.out.2.2
      rw [← HRt.out, hR] at HOK
      have H9 : Hid (Below w.heap.size w W9 ∧ W9.heap[w.heap.size]? = some (.cells #[.int .i64 0, .int .i64 0, .string ⟨#[]⟩, .int .i64 0, .string ⟨#[]⟩, .string ⟨#[]⟩, .bool false, .bool false] 28 (0, 0)) ∧ W9.heap[w6.heap.size]? = some (.cells #[.int .i64 p1.1, .int .i64 p2.1, .string p3.1, .int .i64 p4.1, .string p5.1, .string p6.1, .bool true, .bool false] 28 (0, 0))) := ⟨B9, K9, L9⟩
      have hWW : Hid (W9 = w6.alloc (.cells #[.int .i64 p1.1, .int .i64 p2.1, .string p3.1, .int .i64 p4.1, .string p5.1, .string p6.1, .bool true, .bool false] 28)) := hW9
      rw [hW9] at HOK
      clear hBw q6 b9 K9 L9 B9 S6 hW9
      go_wp2_with fail
      refine HOK.mono ?_
      rw [← hWW.out]
      rintro r w10 ⟨rfl, b10⟩
      have KK := kept b10 H9.out.2.1 (Nat.le_refl _)
      have JJ := kept b10 H9.out.2.2 (Nat.le_refl _)
      have BB : Below w.heap.size w w10 := H9.out.1.trans (b10.mono H9.out.1.size)
      clear HOK E1 E2 E3 b10
      clear JJ
      have r0 := cell_of (i := 0) KK rfl
      have u0 := frozen_of KK 0
      have r1 := cell_of (i := 1) KK rfl
      have u1 := frozen_of KK 1
      have r2 := cell_of (i := 2) KK rfl
      have u2 := frozen_of KK 2
      have r3 := cell_of (i := 3) KK rfl
      have u3 := frozen_of KK 3
      have r4 := cell_of (i := 4) KK rfl
      have u4 := frozen_of KK 4
      have r5 := cell_of (i := 5) KK rfl
      have u5 := frozen_of KK 5
      have r6 := cell_of (i := 6) KK rfl
      have u6 := frozen_of KK 6
      have r7 := cell_of (i := 7) KK rfl
      have u7 := frozen_of KK 7
      have HS := eight_sets KK (.int .i64 0) (.int .i64 0) (.string ⟨#[]⟩) (.int .i64 0) (.string ⟨#[]⟩) (.string ⟨#[]⟩) (.bool false) (.bool false)
      obtain ⟨X, hX⟩ : ∃ x, x = ((((((((w10.setCell ⟨w.heap.size, 0, none⟩ (.int .i64 0)).setCell ⟨w.heap.size, 1, none⟩ (.int .i64 0)).setCell ⟨w.heap.size, 2, none⟩ (.string ⟨#[]⟩)).setCell ⟨w.heap.size, 3, none⟩ (.int .i64 0)).setCell ⟨w.heap.size, 4, none⟩ (.string ⟨#[]⟩)).setCell ⟨w.heap.size, 5, none⟩ (.string ⟨#[]⟩)).setCell ⟨w.heap.size, 6, none⟩ (.bool false)).setCell ⟨w.heap.size, 7, none⟩ (.bool false)) := ⟨_, rfl⟩
      rw [← hX] at HS
      have HEnd : Hid (Below w.heap.size w X) := BB.grown HS.2 BB.size (fun k hk => by simp only [Option.some.injEq] at hk; omega)
      have t0 : X.cell? ⟨w.heap.size, 0, none⟩ = some (.int .i64 0) := cell_of HS.1 rfl
      have t1 : X.cell? ⟨w.heap.size, 1, none⟩ = some (.int .i64 0) := cell_of HS.1 rfl
      have t2 : X.cell? ⟨w.heap.size, 2, none⟩ = some (.string ⟨#[]⟩) := cell_of HS.1 rfl
      have t3 : X.cell? ⟨w.heap.size, 3, none⟩ = some (.int .i64 0) := cell_of HS.1 rfl
      have t4 : X.cell? ⟨w.heap.size, 4, none⟩ = some (.string ⟨#[]⟩) := cell_of HS.1 rfl
      have t5 : X.cell? ⟨w.heap.size, 5, none⟩ = some (.string ⟨#[]⟩) := cell_of HS.1 rfl
      have t6 : X.cell? ⟨w.heap.size, 6, none⟩ = some (.bool false) := cell_of HS.1 rfl
      have t7 : X.cell? ⟨w.heap.size, 7, none⟩ = some (.bool false) := cell_of HS.1 rfl
      rw [hX] at t0 t1 t2 t3 t4 t5 t6 t7 HEnd
      clear hX HS KK BB
      go_wp2
      exact bodyPost_ret (v := .tuple #[zeroJ, .int .i64 1]) (by simp [results, Try.results12, go_sem, zeroJ, t0, t1, t2, t3, t4, t5, t6, t7]) rfl ⟨rfl, HEnd.out⟩
    · have HV : Hid (jobV (jI xs) (flV xs (jI xs).a) = .agg #[.int .i64 p1.1, .int .i64 p2.1, .string p3.1, .int .i64 p4.1, .string p5.1, .string p6.1, .bool true, .bool false]) := by unfold Hid jobV; rw [HFl.out, HJJ.out]; rfl
      rw [(read_right HL.out hb hR).1, (read_right HL.out hb hR).2, HV.out]
      go_enter Try.func12, Try.ntmps12
      go_wp2_with fail
      refine HC1.mono ?_
      rw [← hW0, ← hW1]
      rintro r w1 ⟨rfl, R1, g1⟩
      have S1 := HStep.out _ _ _ _ _ _ HW1.out R1 g1
      clear hW0 hW1 HC1 g1 R1
      go_wp2_with fail
      refine (C2.out w1 S1.rdr).mono ?_
      rintro r w2 ⟨rfl, R2, g2⟩
      have S2 := HStep.out _ _ _ _ _ _ S1 R2 g2
      clear R2 g2 S1 C2
      go_wp2_with fail
      refine (C3.out w2 S2.rdr).mono ?_
      rintro r w3 ⟨rfl, R3, g3⟩
      have S3 := HStep.out _ _ _ _ _ _ S2 R3 g3
      clear R3 g3 S2 C3
      go_wp2_with fail
      refine (C4.out w3 S3.rdr).mono ?_
      rintro r w4 ⟨rfl, R4, g4⟩
      have S4 := HStep.out _ _ _ _ _ _ S3 R4 g4
      clear R4 g4 S3 C4
      go_wp2_with fail
      refine (C5.out w4 S4.rdr).mono ?_
      rintro r w5 ⟨rfl, R5, g5⟩
      have S5 := HStep.out _ _ _ _ _ _ S4 R5 g5
      clear R5 g5 S4 C5
      go_wp2_with fail
      refine (C6.out w5 S5.rdr).mono ?_
      rintro r w6 ⟨rfl, R6, g6⟩
      have S6 := HStep.out _ _ _ _ _ _ S5 R6 g6
      clear R6 g6 S5 C6
      have s6 := S6.sz
      have hBw : B < w.heap.size := by
        obtain ⟨⟨ao', cap', e, _, _, _, h5⟩, _⟩ := HR0.out
        simp only [Value.slice.injEq, true_and] at e
        obtain ⟨rfl, rfl⟩ := e
        obtain ⟨B', off', e', hc'⟩ := h5 (by omega)
        simp only [Option.some.injEq, Addr.mk.injEq, and_true] at e'
        obtain ⟨rfl, rfl⟩ := e'
        exact cell_lt (hc' A (by omega))
      have q6 : w6.cell? ⟨B, off + A, none⟩ = some (.int .u8 1) := by
        obtain ⟨⟨ao', cap', e, _, _, _, h5⟩, _⟩ := S6.rdr.2.2
        simp only [Value.slice.injEq, true_and] at e
        obtain ⟨rfl, rfl⟩ := e
        obtain ⟨B', off', e', hc'⟩ := h5 (by omega)
        simp only [Option.some.injEq, Addr.mk.injEq, and_true] at e'
        obtain ⟨rfl, rfl⟩ := e'
        rw [HF.out]
        exact hc' A (by omega)
      have E1 : ∀ o, (w6.alloc o).cell? ⟨w.heap.size + 1, 1, none⟩ = some (.int .i64 A) := fun o => cell_at (more (Below.refl _ _) o) (cell_of S6.rdr.1 rfl) (Nat.le_refl _)
      have E2 : ∀ o, (w6.alloc o).cell? ⟨w.heap.size + 1, 2, none⟩ = some (.bool false) := fun o => cell_at (more (Below.refl _ _) o) (cell_of S6.rdr.1 rfl) (Nat.le_refl _)
      have E3 : ∀ o, (w6.alloc o).cell? ⟨B, off + A, none⟩ = some (.int .u8 1) := fun o => cell_at (more (Below.refl _ _) o) q6 (Nat.le_refl _)
      obtain ⟨W9, hW9⟩ : ∃ X, X = w6.alloc (.cells #[.int .i64 p1.1, .int .i64 p2.1, .string p3.1, .int .i64 p4.1, .string p5.1, .string p6.1, .bool true, .bool false] 28) := ⟨_, rfl⟩
      have b9 : Below w6.heap.size w6 W9 := by rw [hW9]; exact (Below.refl _ _).alloc (Nat.le_refl _) _
      have K9 := kept b9 S6.out (Nat.le_refl _)
      have L9 : W9.heap[w6.heap.size]? = some (.cells #[.int .i64 p1.1, .int .i64 p2.1, .string p3.1, .int .i64 p4.1, .string p5.1, .string p6.1, .bool true, .bool false] 28 (0, 0)) := by rw [hW9]; exact heap_alloc_new w6 _
      have B9 : Below w.heap.size w W9 := S6.bel.trans (b9.mono S6.bel.size)
      have HOK := specOK W9 p1.1 p2.1 p3.1 p4.1 p5.1 p6.1 true false HSz.out.1 HSz.out.2.1 HSz.out.2.2
      rw [← HRt.out, hR] at HOK
      have H9 : Hid (Below w.heap.size w W9 ∧ W9.heap[w.heap.size]? = some (.cells #[.int .i64 0, .int .i64 0, .string ⟨#[]⟩, .int .i64 0, .string ⟨#[]⟩, .string ⟨#[]⟩, .bool false, .bool false] 28 (0, 0)) ∧ W9.heap[w6.heap.size]? = some (.cells #[.int .i64 p1.1, .int .i64 p2.1, .string p3.1, .int .i64 p4.1, .string p5.1, .string p6.1, .bool true, .bool false] 28 (0, 0))) := ⟨B9, K9, L9⟩
      have hWW : Hid (W9 = w6.alloc (.cells #[.int .i64 p1.1, .int .i64 p2.1, .string p3.1, .int .i64 p4.1, .string p5.1, .string p6.1, .bool true, .bool false] 28)) := hW9
      rw [hW9] at HOK
      clear hBw q6 b9 K9 L9 B9 S6 hW9
      go_wp2_with fail
      refine HOK.mono ?_
      rw [← hWW.out]
      rintro r w10 ⟨rfl, b10⟩
      have KK := kept b10 H9.out.2.1 (Nat.le_refl _)
      have JJ := kept b10 H9.out.2.2 (Nat.le_refl _)
      have BB : Below w.heap.size w w10 := H9.out.1.trans (b10.mono H9.out.1.size)
      clear HOK E1 E2 E3 b10
      have o0 := cell_of (i := 0) JJ rfl
      have o1 := cell_of (i := 1) JJ rfl
      have o2 := cell_of (i := 2) JJ rfl
      have o3 := cell_of (i := 3) JJ rfl
      have o4 := cell_of (i := 4) JJ rfl
      have o5 := cell_of (i := 5) JJ rfl
      have o6 := cell_of (i := 6) JJ rfl
      have o7 := cell_of (i := 7) JJ rfl
      clear JJ
      have r0 := cell_of (i := 0) KK rfl
      have u0 := frozen_of KK 0
      have r1 := cell_of (i := 1) KK rfl
      have u1 := frozen_of KK 1
      have r2 := cell_of (i := 2) KK rfl
      have u2 := frozen_of KK 2
      have r3 := cell_of (i := 3) KK rfl
      have u3 := frozen_of KK 3
      have r4 := cell_of (i := 4) KK rfl
      have u4 := frozen_of KK 4
      have r5 := cell_of (i := 5) KK rfl
      have u5 := frozen_of KK 5
      have r6 := cell_of (i := 6) KK rfl
      have u6 := frozen_of KK 6
      have r7 := cell_of (i := 7) KK rfl
      have u7 := frozen_of KK 7
      have HS := eight_sets KK (.int .i64 p1.1) (.int .i64 p2.1) (.string p3.1) (.int .i64 p4.1) (.string p5.1) (.string p6.1) (.bool true) (.bool false)
      obtain ⟨X, hX⟩ : ∃ x, x = ((((((((w10.setCell ⟨w.heap.size, 0, none⟩ (.int .i64 p1.1)).setCell ⟨w.heap.size, 1, none⟩ (.int .i64 p2.1)).setCell ⟨w.heap.size, 2, none⟩ (.string p3.1)).setCell ⟨w.heap.size, 3, none⟩ (.int .i64 p4.1)).setCell ⟨w.heap.size, 4, none⟩ (.string p5.1)).setCell ⟨w.heap.size, 5, none⟩ (.string p6.1)).setCell ⟨w.heap.size, 6, none⟩ (.bool true)).setCell ⟨w.heap.size, 7, none⟩ (.bool false)) := ⟨_, rfl⟩
      rw [← hX] at HS
      have HEnd : Hid (Below w.heap.size w X) := BB.grown HS.2 BB.size (fun k hk => by simp only [Option.some.injEq] at hk; omega)
      have t0 : X.cell? ⟨w.heap.size, 0, none⟩ = some (.int .i64 p1.1) := cell_of HS.1 rfl
      have t1 : X.cell? ⟨w.heap.size, 1, none⟩ = some (.int .i64 p2.1) := cell_of HS.1 rfl
      have t2 : X.cell? ⟨w.heap.size, 2, none⟩ = some (.string p3.1) := cell_of HS.1 rfl
      have t3 : X.cell? ⟨w.heap.size, 3, none⟩ = some (.int .i64 p4.1) := cell_of HS.1 rfl
      have t4 : X.cell? ⟨w.heap.size, 4, none⟩ = some (.string p5.1) := cell_of HS.1 rfl
      have t5 : X.cell? ⟨w.heap.size, 5, none⟩ = some (.string p6.1) := cell_of HS.1 rfl
      have t6 : X.cell? ⟨w.heap.size, 6, none⟩ = some (.bool true) := cell_of HS.1 rfl
      have t7 : X.cell? ⟨w.heap.size, 7, none⟩ = some (.bool false) := cell_of HS.1 rfl
      rw [hX] at t0 t1 t2 t3 t4 t5 t6 t7 HEnd
      clear hX HS KK BB
      go_wp2
      exact bodyPost_ret (v := .tuple #[.agg #[.int .i64 p1.1, .int .i64 p2.1, .string p3.1, .int .i64 p4.1, .string p5.1, .string p6.1, .bool true, .bool false], .int .i64 0]) (by simp [results, Try.results12, go_sem, t0, t1, t2, t3, t4, t5, t6, t7]) rfl ⟨rfl, HEnd.out⟩
  · rcases Bool.eq_false_or_eq_true (rightJ xs) with hR | hR
    rotate_left
    · rw [(read_wrong HL.out hb hR).1, (read_wrong HL.out hb hR).2]
      go_enter Try.func12, Try.ntmps12
      go_wp2_with fail
      refine HC1.mono ?_
      rw [← hW0, ← hW1]
      rintro r w1 ⟨rfl, R1, g1⟩
      have S1 := HStep.out _ _ _ _ _ _ HW1.out R1 g1
      clear hW0 hW1 HC1 g1 R1
      go_wp2_with fail
      refine (C2.out w1 S1.rdr).mono ?_
      rintro r w2 ⟨rfl, R2, g2⟩
      have S2 := HStep.out _ _ _ _ _ _ S1 R2 g2
      clear R2 g2 S1 C2
      go_wp2_with fail
      refine (C3.out w2 S2.rdr).mono ?_
      rintro r w3 ⟨rfl, R3, g3⟩
      have S3 := HStep.out _ _ _ _ _ _ S2 R3 g3
      clear R3 g3 S2 C3
      go_wp2_with fail
      refine (C4.out w3 S3.rdr).mono ?_
      rintro r w4 ⟨rfl, R4, g4⟩
      have S4 := HStep.out _ _ _ _ _ _ S3 R4 g4
      clear R4 g4 S3 C4
      go_wp2_with fail
      refine (C5.out w4 S4.rdr).mono ?_
      rintro r w5 ⟨rfl, R5, g5⟩
      have S5 := HStep.out _ _ _ _ _ _ S4 R5 g5
      clear R5 g5 S4 C5
      go_wp2_with fail
      refine (C6.out w5 S5.rdr).mono ?_
      rintro r w6 ⟨rfl, R6, g6⟩
      have S6 := HStep.out _ _ _ _ _ _ S5 R6 g6
      clear R6 g6 S5 C6
      have s6 := S6.sz
      have hBw : B < w.heap.size := by
        obtain ⟨⟨ao', cap', e, _, _, _, h5⟩, _⟩ := HR0.out
        simp only [Value.slice.injEq, true_and] at e
        obtain ⟨rfl, rfl⟩ := e
        obtain ⟨B', off', e', hc'⟩ := h5 (by omega)
        simp only [Option.some.injEq, Addr.mk.injEq, and_true] at e'
        obtain ⟨rfl, rfl⟩ := e'
        exact cell_lt (hc' A (by omega))
      have q6 : w6.cell? ⟨B, off + A, none⟩ = some (.int .u8 2) := by
        obtain ⟨⟨ao', cap', e, _, _, _, h5⟩, _⟩ := S6.rdr.2.2
        simp only [Value.slice.injEq, true_and] at e
        obtain ⟨rfl, rfl⟩ := e
        obtain ⟨B', off', e', hc'⟩ := h5 (by omega)
        simp only [Option.some.injEq, Addr.mk.injEq, and_true] at e'
        obtain ⟨rfl, rfl⟩ := e'
        rw [HF.out]
        exact hc' A (by omega)
      have E1 : ∀ o, (w6.alloc o).cell? ⟨w.heap.size + 1, 1, none⟩ = some (.int .i64 A) := fun o => cell_at (more (Below.refl _ _) o) (cell_of S6.rdr.1 rfl) (Nat.le_refl _)
      have E2 : ∀ o, (w6.alloc o).cell? ⟨w.heap.size + 1, 2, none⟩ = some (.bool false) := fun o => cell_at (more (Below.refl _ _) o) (cell_of S6.rdr.1 rfl) (Nat.le_refl _)
      have E3 : ∀ o, (w6.alloc o).cell? ⟨B, off + A, none⟩ = some (.int .u8 2) := fun o => cell_at (more (Below.refl _ _) o) q6 (Nat.le_refl _)
      obtain ⟨W9, hW9⟩ : ∃ X, X = w6.alloc (.cells #[.int .i64 p1.1, .int .i64 p2.1, .string p3.1, .int .i64 p4.1, .string p5.1, .string p6.1, .bool false, .bool true] 28) := ⟨_, rfl⟩
      have b9 : Below w6.heap.size w6 W9 := by rw [hW9]; exact (Below.refl _ _).alloc (Nat.le_refl _) _
      have K9 := kept b9 S6.out (Nat.le_refl _)
      have L9 : W9.heap[w6.heap.size]? = some (.cells #[.int .i64 p1.1, .int .i64 p2.1, .string p3.1, .int .i64 p4.1, .string p5.1, .string p6.1, .bool false, .bool true] 28 (0, 0)) := by rw [hW9]; exact heap_alloc_new w6 _
      have B9 : Below w.heap.size w W9 := S6.bel.trans (b9.mono S6.bel.size)
      have HOK := specOK W9 p1.1 p2.1 p3.1 p4.1 p5.1 p6.1 false true HSz.out.1 HSz.out.2.1 HSz.out.2.2
      rw [← HRt.out, hR] at HOK
      have H9 : Hid (Below w.heap.size w W9 ∧ W9.heap[w.heap.size]? = some (.cells #[.int .i64 0, .int .i64 0, .string ⟨#[]⟩, .int .i64 0, .string ⟨#[]⟩, .string ⟨#[]⟩, .bool false, .bool false] 28 (0, 0)) ∧ W9.heap[w6.heap.size]? = some (.cells #[.int .i64 p1.1, .int .i64 p2.1, .string p3.1, .int .i64 p4.1, .string p5.1, .string p6.1, .bool false, .bool true] 28 (0, 0))) := ⟨B9, K9, L9⟩
      have hWW : Hid (W9 = w6.alloc (.cells #[.int .i64 p1.1, .int .i64 p2.1, .string p3.1, .int .i64 p4.1, .string p5.1, .string p6.1, .bool false, .bool true] 28)) := hW9
      rw [hW9] at HOK
      clear hBw q6 b9 K9 L9 B9 S6 hW9
      go_wp2_with fail
      refine HOK.mono ?_
      rw [← hWW.out]
      rintro r w10 ⟨rfl, b10⟩
      have KK := kept b10 H9.out.2.1 (Nat.le_refl _)
      have JJ := kept b10 H9.out.2.2 (Nat.le_refl _)
      have BB : Below w.heap.size w w10 := H9.out.1.trans (b10.mono H9.out.1.size)
      clear HOK E1 E2 E3 b10
      clear JJ
      have r0 := cell_of (i := 0) KK rfl
      have u0 := frozen_of KK 0
      have r1 := cell_of (i := 1) KK rfl
      have u1 := frozen_of KK 1
      have r2 := cell_of (i := 2) KK rfl
      have u2 := frozen_of KK 2
      have r3 := cell_of (i := 3) KK rfl
      have u3 := frozen_of KK 3
      have r4 := cell_of (i := 4) KK rfl
      have u4 := frozen_of KK 4
      have r5 := cell_of (i := 5) KK rfl
      have u5 := frozen_of KK 5
      have r6 := cell_of (i := 6) KK rfl
      have u6 := frozen_of KK 6
      have r7 := cell_of (i := 7) KK rfl
      have u7 := frozen_of KK 7
      have HS := eight_sets KK (.int .i64 0) (.int .i64 0) (.string ⟨#[]⟩) (.int .i64 0) (.string ⟨#[]⟩) (.string ⟨#[]⟩) (.bool false) (.bool false)
      obtain ⟨X, hX⟩ : ∃ x, x = ((((((((w10.setCell ⟨w.heap.size, 0, none⟩ (.int .i64 0)).setCell ⟨w.heap.size, 1, none⟩ (.int .i64 0)).setCell ⟨w.heap.size, 2, none⟩ (.string ⟨#[]⟩)).setCell ⟨w.heap.size, 3, none⟩ (.int .i64 0)).setCell ⟨w.heap.size, 4, none⟩ (.string ⟨#[]⟩)).setCell ⟨w.heap.size, 5, none⟩ (.string ⟨#[]⟩)).setCell ⟨w.heap.size, 6, none⟩ (.bool false)).setCell ⟨w.heap.size, 7, none⟩ (.bool false)) := ⟨_, rfl⟩
      rw [← hX] at HS
      have HEnd : Hid (Below w.heap.size w X) := BB.grown HS.2 BB.size (fun k hk => by simp only [Option.some.injEq] at hk; omega)
      have t0 : X.cell? ⟨w.heap.size, 0, none⟩ = some (.int .i64 0) := cell_of HS.1 rfl
      have t1 : X.cell? ⟨w.heap.size, 1, none⟩ = some (.int .i64 0) := cell_of HS.1 rfl
      have t2 : X.cell? ⟨w.heap.size, 2, none⟩ = some (.string ⟨#[]⟩) := cell_of HS.1 rfl
      have t3 : X.cell? ⟨w.heap.size, 3, none⟩ = some (.int .i64 0) := cell_of HS.1 rfl
      have t4 : X.cell? ⟨w.heap.size, 4, none⟩ = some (.string ⟨#[]⟩) := cell_of HS.1 rfl
      have t5 : X.cell? ⟨w.heap.size, 5, none⟩ = some (.string ⟨#[]⟩) := cell_of HS.1 rfl
      have t6 : X.cell? ⟨w.heap.size, 6, none⟩ = some (.bool false) := cell_of HS.1 rfl
      have t7 : X.cell? ⟨w.heap.size, 7, none⟩ = some (.bool false) := cell_of HS.1 rfl
      rw [hX] at t0 t1 t2 t3 t4 t5 t6 t7 HEnd
      clear hX HS KK BB
      go_wp2
      exact bodyPost_ret (v := .tuple #[zeroJ, .int .i64 1]) (by simp [results, Try.results12, go_sem, zeroJ, t0, t1, t2, t3, t4, t5, t6, t7]) rfl ⟨rfl, HEnd.out⟩
    · have HV : Hid (jobV (jI xs) (flV xs (jI xs).a) = .agg #[.int .i64 p1.1, .int .i64 p2.1, .string p3.1, .int .i64 p4.1, .string p5.1, .string p6.1, .bool false, .bool true]) := by unfold Hid jobV; rw [HFl.out, HJJ.out]; rfl
      rw [(read_right HL.out hb hR).1, (read_right HL.out hb hR).2, HV.out]
      go_enter Try.func12, Try.ntmps12
      go_wp2_with fail
      refine HC1.mono ?_
      rw [← hW0, ← hW1]
      rintro r w1 ⟨rfl, R1, g1⟩
      have S1 := HStep.out _ _ _ _ _ _ HW1.out R1 g1
      clear hW0 hW1 HC1 g1 R1
      go_wp2_with fail
      refine (C2.out w1 S1.rdr).mono ?_
      rintro r w2 ⟨rfl, R2, g2⟩
      have S2 := HStep.out _ _ _ _ _ _ S1 R2 g2
      clear R2 g2 S1 C2
      go_wp2_with fail
      refine (C3.out w2 S2.rdr).mono ?_
      rintro r w3 ⟨rfl, R3, g3⟩
      have S3 := HStep.out _ _ _ _ _ _ S2 R3 g3
      clear R3 g3 S2 C3
      go_wp2_with fail
      refine (C4.out w3 S3.rdr).mono ?_
      rintro r w4 ⟨rfl, R4, g4⟩
      have S4 := HStep.out _ _ _ _ _ _ S3 R4 g4
      clear R4 g4 S3 C4
      go_wp2_with fail
      refine (C5.out w4 S4.rdr).mono ?_
      rintro r w5 ⟨rfl, R5, g5⟩
      have S5 := HStep.out _ _ _ _ _ _ S4 R5 g5
      clear R5 g5 S4 C5
      go_wp2_with fail
      refine (C6.out w5 S5.rdr).mono ?_
      rintro r w6 ⟨rfl, R6, g6⟩
      have S6 := HStep.out _ _ _ _ _ _ S5 R6 g6
      clear R6 g6 S5 C6
      have s6 := S6.sz
      have hBw : B < w.heap.size := by
        obtain ⟨⟨ao', cap', e, _, _, _, h5⟩, _⟩ := HR0.out
        simp only [Value.slice.injEq, true_and] at e
        obtain ⟨rfl, rfl⟩ := e
        obtain ⟨B', off', e', hc'⟩ := h5 (by omega)
        simp only [Option.some.injEq, Addr.mk.injEq, and_true] at e'
        obtain ⟨rfl, rfl⟩ := e'
        exact cell_lt (hc' A (by omega))
      have q6 : w6.cell? ⟨B, off + A, none⟩ = some (.int .u8 2) := by
        obtain ⟨⟨ao', cap', e, _, _, _, h5⟩, _⟩ := S6.rdr.2.2
        simp only [Value.slice.injEq, true_and] at e
        obtain ⟨rfl, rfl⟩ := e
        obtain ⟨B', off', e', hc'⟩ := h5 (by omega)
        simp only [Option.some.injEq, Addr.mk.injEq, and_true] at e'
        obtain ⟨rfl, rfl⟩ := e'
        rw [HF.out]
        exact hc' A (by omega)
      have E1 : ∀ o, (w6.alloc o).cell? ⟨w.heap.size + 1, 1, none⟩ = some (.int .i64 A) := fun o => cell_at (more (Below.refl _ _) o) (cell_of S6.rdr.1 rfl) (Nat.le_refl _)
      have E2 : ∀ o, (w6.alloc o).cell? ⟨w.heap.size + 1, 2, none⟩ = some (.bool false) := fun o => cell_at (more (Below.refl _ _) o) (cell_of S6.rdr.1 rfl) (Nat.le_refl _)
      have E3 : ∀ o, (w6.alloc o).cell? ⟨B, off + A, none⟩ = some (.int .u8 2) := fun o => cell_at (more (Below.refl _ _) o) q6 (Nat.le_refl _)
      obtain ⟨W9, hW9⟩ : ∃ X, X = w6.alloc (.cells #[.int .i64 p1.1, .int .i64 p2.1, .string p3.1, .int .i64 p4.1, .string p5.1, .string p6.1, .bool false, .bool true] 28) := ⟨_, rfl⟩
      have b9 : Below w6.heap.size w6 W9 := by rw [hW9]; exact (Below.refl _ _).alloc (Nat.le_refl _) _
      have K9 := kept b9 S6.out (Nat.le_refl _)
      have L9 : W9.heap[w6.heap.size]? = some (.cells #[.int .i64 p1.1, .int .i64 p2.1, .string p3.1, .int .i64 p4.1, .string p5.1, .string p6.1, .bool false, .bool true] 28 (0, 0)) := by rw [hW9]; exact heap_alloc_new w6 _
      have B9 : Below w.heap.size w W9 := S6.bel.trans (b9.mono S6.bel.size)
      have HOK := specOK W9 p1.1 p2.1 p3.1 p4.1 p5.1 p6.1 false true HSz.out.1 HSz.out.2.1 HSz.out.2.2
      rw [← HRt.out, hR] at HOK
      have H9 : Hid (Below w.heap.size w W9 ∧ W9.heap[w.heap.size]? = some (.cells #[.int .i64 0, .int .i64 0, .string ⟨#[]⟩, .int .i64 0, .string ⟨#[]⟩, .string ⟨#[]⟩, .bool false, .bool false] 28 (0, 0)) ∧ W9.heap[w6.heap.size]? = some (.cells #[.int .i64 p1.1, .int .i64 p2.1, .string p3.1, .int .i64 p4.1, .string p5.1, .string p6.1, .bool false, .bool true] 28 (0, 0))) := ⟨B9, K9, L9⟩
      have hWW : Hid (W9 = w6.alloc (.cells #[.int .i64 p1.1, .int .i64 p2.1, .string p3.1, .int .i64 p4.1, .string p5.1, .string p6.1, .bool false, .bool true] 28)) := hW9
      rw [hW9] at HOK
      clear hBw q6 b9 K9 L9 B9 S6 hW9
      go_wp2_with fail
      refine HOK.mono ?_
      rw [← hWW.out]
      rintro r w10 ⟨rfl, b10⟩
      have KK := kept b10 H9.out.2.1 (Nat.le_refl _)
      have JJ := kept b10 H9.out.2.2 (Nat.le_refl _)
      have BB : Below w.heap.size w w10 := H9.out.1.trans (b10.mono H9.out.1.size)
      clear HOK E1 E2 E3 b10
      have o0 := cell_of (i := 0) JJ rfl
      have o1 := cell_of (i := 1) JJ rfl
      have o2 := cell_of (i := 2) JJ rfl
      have o3 := cell_of (i := 3) JJ rfl
      have o4 := cell_of (i := 4) JJ rfl
      have o5 := cell_of (i := 5) JJ rfl
      have o6 := cell_of (i := 6) JJ rfl
      have o7 := cell_of (i := 7) JJ rfl
      clear JJ
      have r0 := cell_of (i := 0) KK rfl
      have u0 := frozen_of KK 0
      have r1 := cell_of (i := 1) KK rfl
      have u1 := frozen_of KK 1
      have r2 := cell_of (i := 2) KK rfl
      have u2 := frozen_of KK 2
      have r3 := cell_of (i := 3) KK rfl
      have u3 := frozen_of KK 3
      have r4 := cell_of (i := 4) KK rfl
      have u4 := frozen_of KK 4
      have r5 := cell_of (i := 5) KK rfl
      have u5 := frozen_of KK 5
      have r6 := cell_of (i := 6) KK rfl
      have u6 := frozen_of KK 6
      have r7 := cell_of (i := 7) KK rfl
      have u7 := frozen_of KK 7
      have HS := eight_sets KK (.int .i64 p1.1) (.int .i64 p2.1) (.string p3.1) (.int .i64 p4.1) (.string p5.1) (.string p6.1) (.bool false) (.bool true)
      obtain ⟨X, hX⟩ : ∃ x, x = ((((((((w10.setCell ⟨w.heap.size, 0, none⟩ (.int .i64 p1.1)).setCell ⟨w.heap.size, 1, none⟩ (.int .i64 p2.1)).setCell ⟨w.heap.size, 2, none⟩ (.string p3.1)).setCell ⟨w.heap.size, 3, none⟩ (.int .i64 p4.1)).setCell ⟨w.heap.size, 4, none⟩ (.string p5.1)).setCell ⟨w.heap.size, 5, none⟩ (.string p6.1)).setCell ⟨w.heap.size, 6, none⟩ (.bool false)).setCell ⟨w.heap.size, 7, none⟩ (.bool true)) := ⟨_, rfl⟩
      rw [← hX] at HS
      have HEnd : Hid (Below w.heap.size w X) := BB.grown HS.2 BB.size (fun k hk => by simp only [Option.some.injEq] at hk; omega)
      have t0 : X.cell? ⟨w.heap.size, 0, none⟩ = some (.int .i64 p1.1) := cell_of HS.1 rfl
      have t1 : X.cell? ⟨w.heap.size, 1, none⟩ = some (.int .i64 p2.1) := cell_of HS.1 rfl
      have t2 : X.cell? ⟨w.heap.size, 2, none⟩ = some (.string p3.1) := cell_of HS.1 rfl
      have t3 : X.cell? ⟨w.heap.size, 3, none⟩ = some (.int .i64 p4.1) := cell_of HS.1 rfl
      have t4 : X.cell? ⟨w.heap.size, 4, none⟩ = some (.string p5.1) := cell_of HS.1 rfl
      have t5 : X.cell? ⟨w.heap.size, 5, none⟩ = some (.string p6.1) := cell_of HS.1 rfl
      have t6 : X.cell? ⟨w.heap.size, 6, none⟩ = some (.bool false) := cell_of HS.1 rfl
      have t7 : X.cell? ⟨w.heap.size, 7, none⟩ = some (.bool true) := cell_of HS.1 rfl
      rw [hX] at t0 t1 t2 t3 t4 t5 t6 t7 HEnd
      clear hX HS KK BB
      go_wp2
      exact bodyPost_ret (v := .tuple #[.agg #[.int .i64 p1.1, .int .i64 p2.1, .string p3.1, .int .i64 p4.1, .string p5.1, .string p6.1, .bool false, .bool true], .int .i64 0]) (by simp [results, Try.results12, go_sem, t0, t1, t2, t3, t4, t5, t6, t7]) rfl ⟨rfl, HEnd.out⟩
  · rcases Bool.eq_false_or_eq_true (rightJ xs) with hR | hR
    rotate_left
    · rw [(read_wrong HL.out hb hR).1, (read_wrong HL.out hb hR).2]
      go_enter Try.func12, Try.ntmps12
      go_wp2_with fail
      refine HC1.mono ?_
      rw [← hW0, ← hW1]
      rintro r w1 ⟨rfl, R1, g1⟩
      have S1 := HStep.out _ _ _ _ _ _ HW1.out R1 g1
      clear hW0 hW1 HC1 g1 R1
      go_wp2_with fail
      refine (C2.out w1 S1.rdr).mono ?_
      rintro r w2 ⟨rfl, R2, g2⟩
      have S2 := HStep.out _ _ _ _ _ _ S1 R2 g2
      clear R2 g2 S1 C2
      go_wp2_with fail
      refine (C3.out w2 S2.rdr).mono ?_
      rintro r w3 ⟨rfl, R3, g3⟩
      have S3 := HStep.out _ _ _ _ _ _ S2 R3 g3
      clear R3 g3 S2 C3
      go_wp2_with fail
      refine (C4.out w3 S3.rdr).mono ?_
      rintro r w4 ⟨rfl, R4, g4⟩
      have S4 := HStep.out _ _ _ _ _ _ S3 R4 g4
      clear R4 g4 S3 C4
      go_wp2_with fail
      refine (C5.out w4 S4.rdr).mono ?_
      rintro r w5 ⟨rfl, R5, g5⟩
      have S5 := HStep.out _ _ _ _ _ _ S4 R5 g5
      clear R5 g5 S4 C5
      go_wp2_with fail
      refine (C6.out w5 S5.rdr).mono ?_
      rintro r w6 ⟨rfl, R6, g6⟩
      have S6 := HStep.out _ _ _ _ _ _ S5 R6 g6
      clear R6 g6 S5 C6
      have s6 := S6.sz
      have hBw : B < w.heap.size := by
        obtain ⟨⟨ao', cap', e, _, _, _, h5⟩, _⟩ := HR0.out
        simp only [Value.slice.injEq, true_and] at e
        obtain ⟨rfl, rfl⟩ := e
        obtain ⟨B', off', e', hc'⟩ := h5 (by omega)
        simp only [Option.some.injEq, Addr.mk.injEq, and_true] at e'
        obtain ⟨rfl, rfl⟩ := e'
        exact cell_lt (hc' A (by omega))
      have q6 : w6.cell? ⟨B, off + A, none⟩ = some (.int .u8 3) := by
        obtain ⟨⟨ao', cap', e, _, _, _, h5⟩, _⟩ := S6.rdr.2.2
        simp only [Value.slice.injEq, true_and] at e
        obtain ⟨rfl, rfl⟩ := e
        obtain ⟨B', off', e', hc'⟩ := h5 (by omega)
        simp only [Option.some.injEq, Addr.mk.injEq, and_true] at e'
        obtain ⟨rfl, rfl⟩ := e'
        rw [HF.out]
        exact hc' A (by omega)
      have E1 : ∀ o, (w6.alloc o).cell? ⟨w.heap.size + 1, 1, none⟩ = some (.int .i64 A) := fun o => cell_at (more (Below.refl _ _) o) (cell_of S6.rdr.1 rfl) (Nat.le_refl _)
      have E2 : ∀ o, (w6.alloc o).cell? ⟨w.heap.size + 1, 2, none⟩ = some (.bool false) := fun o => cell_at (more (Below.refl _ _) o) (cell_of S6.rdr.1 rfl) (Nat.le_refl _)
      have E3 : ∀ o, (w6.alloc o).cell? ⟨B, off + A, none⟩ = some (.int .u8 3) := fun o => cell_at (more (Below.refl _ _) o) q6 (Nat.le_refl _)
      obtain ⟨W9, hW9⟩ : ∃ X, X = w6.alloc (.cells #[.int .i64 p1.1, .int .i64 p2.1, .string p3.1, .int .i64 p4.1, .string p5.1, .string p6.1, .bool true, .bool true] 28) := ⟨_, rfl⟩
      have b9 : Below w6.heap.size w6 W9 := by rw [hW9]; exact (Below.refl _ _).alloc (Nat.le_refl _) _
      have K9 := kept b9 S6.out (Nat.le_refl _)
      have L9 : W9.heap[w6.heap.size]? = some (.cells #[.int .i64 p1.1, .int .i64 p2.1, .string p3.1, .int .i64 p4.1, .string p5.1, .string p6.1, .bool true, .bool true] 28 (0, 0)) := by rw [hW9]; exact heap_alloc_new w6 _
      have B9 : Below w.heap.size w W9 := S6.bel.trans (b9.mono S6.bel.size)
      have HOK := specOK W9 p1.1 p2.1 p3.1 p4.1 p5.1 p6.1 true true HSz.out.1 HSz.out.2.1 HSz.out.2.2
      rw [← HRt.out, hR] at HOK
      have H9 : Hid (Below w.heap.size w W9 ∧ W9.heap[w.heap.size]? = some (.cells #[.int .i64 0, .int .i64 0, .string ⟨#[]⟩, .int .i64 0, .string ⟨#[]⟩, .string ⟨#[]⟩, .bool false, .bool false] 28 (0, 0)) ∧ W9.heap[w6.heap.size]? = some (.cells #[.int .i64 p1.1, .int .i64 p2.1, .string p3.1, .int .i64 p4.1, .string p5.1, .string p6.1, .bool true, .bool true] 28 (0, 0))) := ⟨B9, K9, L9⟩
      have hWW : Hid (W9 = w6.alloc (.cells #[.int .i64 p1.1, .int .i64 p2.1, .string p3.1, .int .i64 p4.1, .string p5.1, .string p6.1, .bool true, .bool true] 28)) := hW9
      rw [hW9] at HOK
      clear hBw q6 b9 K9 L9 B9 S6 hW9
      go_wp2_with fail
      refine HOK.mono ?_
      rw [← hWW.out]
      rintro r w10 ⟨rfl, b10⟩
      have KK := kept b10 H9.out.2.1 (Nat.le_refl _)
      have JJ := kept b10 H9.out.2.2 (Nat.le_refl _)
      have BB : Below w.heap.size w w10 := H9.out.1.trans (b10.mono H9.out.1.size)
      clear HOK E1 E2 E3 b10
      clear JJ
      have r0 := cell_of (i := 0) KK rfl
      have u0 := frozen_of KK 0
      have r1 := cell_of (i := 1) KK rfl
      have u1 := frozen_of KK 1
      have r2 := cell_of (i := 2) KK rfl
      have u2 := frozen_of KK 2
      have r3 := cell_of (i := 3) KK rfl
      have u3 := frozen_of KK 3
      have r4 := cell_of (i := 4) KK rfl
      have u4 := frozen_of KK 4
      have r5 := cell_of (i := 5) KK rfl
      have u5 := frozen_of KK 5
      have r6 := cell_of (i := 6) KK rfl
      have u6 := frozen_of KK 6
      have r7 := cell_of (i := 7) KK rfl
      have u7 := frozen_of KK 7
      have HS := eight_sets KK (.int .i64 0) (.int .i64 0) (.string ⟨#[]⟩) (.int .i64 0) (.string ⟨#[]⟩) (.string ⟨#[]⟩) (.bool false) (.bool false)
      obtain ⟨X, hX⟩ : ∃ x, x = ((((((((w10.setCell ⟨w.heap.size, 0, none⟩ (.int .i64 0)).setCell ⟨w.heap.size, 1, none⟩ (.int .i64 0)).setCell ⟨w.heap.size, 2, none⟩ (.string ⟨#[]⟩)).setCell ⟨w.heap.size, 3, none⟩ (.int .i64 0)).setCell ⟨w.heap.size, 4, none⟩ (.string ⟨#[]⟩)).setCell ⟨w.heap.size, 5, none⟩ (.string ⟨#[]⟩)).setCell ⟨w.heap.size, 6, none⟩ (.bool false)).setCell ⟨w.heap.size, 7, none⟩ (.bool false)) := ⟨_, rfl⟩
      rw [← hX] at HS
      have HEnd : Hid (Below w.heap.size w X) := BB.grown HS.2 BB.size (fun k hk => by simp only [Option.some.injEq] at hk; omega)
      have t0 : X.cell? ⟨w.heap.size, 0, none⟩ = some (.int .i64 0) := cell_of HS.1 rfl
      have t1 : X.cell? ⟨w.heap.size, 1, none⟩ = some (.int .i64 0) := cell_of HS.1 rfl
      have t2 : X.cell? ⟨w.heap.size, 2, none⟩ = some (.string ⟨#[]⟩) := cell_of HS.1 rfl
      have t3 : X.cell? ⟨w.heap.size, 3, none⟩ = some (.int .i64 0) := cell_of HS.1 rfl
      have t4 : X.cell? ⟨w.heap.size, 4, none⟩ = some (.string ⟨#[]⟩) := cell_of HS.1 rfl
      have t5 : X.cell? ⟨w.heap.size, 5, none⟩ = some (.string ⟨#[]⟩) := cell_of HS.1 rfl
      have t6 : X.cell? ⟨w.heap.size, 6, none⟩ = some (.bool false) := cell_of HS.1 rfl
      have t7 : X.cell? ⟨w.heap.size, 7, none⟩ = some (.bool false) := cell_of HS.1 rfl
      rw [hX] at t0 t1 t2 t3 t4 t5 t6 t7 HEnd
      clear hX HS KK BB
      go_wp2
      exact bodyPost_ret (v := .tuple #[zeroJ, .int .i64 1]) (by simp [results, Try.results12, go_sem, zeroJ, t0, t1, t2, t3, t4, t5, t6, t7]) rfl ⟨rfl, HEnd.out⟩
    · have HV : Hid (jobV (jI xs) (flV xs (jI xs).a) = .agg #[.int .i64 p1.1, .int .i64 p2.1, .string p3.1, .int .i64 p4.1, .string p5.1, .string p6.1, .bool true, .bool true]) := by unfold Hid jobV; rw [HFl.out, HJJ.out]; rfl
      rw [(read_right HL.out hb hR).1, (read_right HL.out hb hR).2, HV.out]
      go_enter Try.func12, Try.ntmps12
      go_wp2_with fail
      refine HC1.mono ?_
      rw [← hW0, ← hW1]
      rintro r w1 ⟨rfl, R1, g1⟩
      have S1 := HStep.out _ _ _ _ _ _ HW1.out R1 g1
      clear hW0 hW1 HC1 g1 R1
      go_wp2_with fail
      refine (C2.out w1 S1.rdr).mono ?_
      rintro r w2 ⟨rfl, R2, g2⟩
      have S2 := HStep.out _ _ _ _ _ _ S1 R2 g2
      clear R2 g2 S1 C2
      go_wp2_with fail
      refine (C3.out w2 S2.rdr).mono ?_
      rintro r w3 ⟨rfl, R3, g3⟩
      have S3 := HStep.out _ _ _ _ _ _ S2 R3 g3
      clear R3 g3 S2 C3
      go_wp2_with fail
      refine (C4.out w3 S3.rdr).mono ?_
      rintro r w4 ⟨rfl, R4, g4⟩
      have S4 := HStep.out _ _ _ _ _ _ S3 R4 g4
      clear R4 g4 S3 C4
      go_wp2_with fail
      refine (C5.out w4 S4.rdr).mono ?_
      rintro r w5 ⟨rfl, R5, g5⟩
      have S5 := HStep.out _ _ _ _ _ _ S4 R5 g5
      clear R5 g5 S4 C5
      go_wp2_with fail
      refine (C6.out w5 S5.rdr).mono ?_
      rintro r w6 ⟨rfl, R6, g6⟩
      have S6 := HStep.out _ _ _ _ _ _ S5 R6 g6
      clear R6 g6 S5 C6
      have s6 := S6.sz
      have hBw : B < w.heap.size := by
        obtain ⟨⟨ao', cap', e, _, _, _, h5⟩, _⟩ := HR0.out
        simp only [Value.slice.injEq, true_and] at e
        obtain ⟨rfl, rfl⟩ := e
        obtain ⟨B', off', e', hc'⟩ := h5 (by omega)
        simp only [Option.some.injEq, Addr.mk.injEq, and_true] at e'
        obtain ⟨rfl, rfl⟩ := e'
        exact cell_lt (hc' A (by omega))
      have q6 : w6.cell? ⟨B, off + A, none⟩ = some (.int .u8 3) := by
        obtain ⟨⟨ao', cap', e, _, _, _, h5⟩, _⟩ := S6.rdr.2.2
        simp only [Value.slice.injEq, true_and] at e
        obtain ⟨rfl, rfl⟩ := e
        obtain ⟨B', off', e', hc'⟩ := h5 (by omega)
        simp only [Option.some.injEq, Addr.mk.injEq, and_true] at e'
        obtain ⟨rfl, rfl⟩ := e'
        rw [HF.out]
        exact hc' A (by omega)
      have E1 : ∀ o, (w6.alloc o).cell? ⟨w.heap.size + 1, 1, none⟩ = some (.int .i64 A) := fun o => cell_at (more (Below.refl _ _) o) (cell_of S6.rdr.1 rfl) (Nat.le_refl _)
      have E2 : ∀ o, (w6.alloc o).cell? ⟨w.heap.size + 1, 2, none⟩ = some (.bool false) := fun o => cell_at (more (Below.refl _ _) o) (cell_of S6.rdr.1 rfl) (Nat.le_refl _)
      have E3 : ∀ o, (w6.alloc o).cell? ⟨B, off + A, none⟩ = some (.int .u8 3) := fun o => cell_at (more (Below.refl _ _) o) q6 (Nat.le_refl _)
      obtain ⟨W9, hW9⟩ : ∃ X, X = w6.alloc (.cells #[.int .i64 p1.1, .int .i64 p2.1, .string p3.1, .int .i64 p4.1, .string p5.1, .string p6.1, .bool true, .bool true] 28) := ⟨_, rfl⟩
      have b9 : Below w6.heap.size w6 W9 := by rw [hW9]; exact (Below.refl _ _).alloc (Nat.le_refl _) _
      have K9 := kept b9 S6.out (Nat.le_refl _)
      have L9 : W9.heap[w6.heap.size]? = some (.cells #[.int .i64 p1.1, .int .i64 p2.1, .string p3.1, .int .i64 p4.1, .string p5.1, .string p6.1, .bool true, .bool true] 28 (0, 0)) := by rw [hW9]; exact heap_alloc_new w6 _
      have B9 : Below w.heap.size w W9 := S6.bel.trans (b9.mono S6.bel.size)
      have HOK := specOK W9 p1.1 p2.1 p3.1 p4.1 p5.1 p6.1 true true HSz.out.1 HSz.out.2.1 HSz.out.2.2
      rw [← HRt.out, hR] at HOK
      have H9 : Hid (Below w.heap.size w W9 ∧ W9.heap[w.heap.size]? = some (.cells #[.int .i64 0, .int .i64 0, .string ⟨#[]⟩, .int .i64 0, .string ⟨#[]⟩, .string ⟨#[]⟩, .bool false, .bool false] 28 (0, 0)) ∧ W9.heap[w6.heap.size]? = some (.cells #[.int .i64 p1.1, .int .i64 p2.1, .string p3.1, .int .i64 p4.1, .string p5.1, .string p6.1, .bool true, .bool true] 28 (0, 0))) := ⟨B9, K9, L9⟩
      have hWW : Hid (W9 = w6.alloc (.cells #[.int .i64 p1.1, .int .i64 p2.1, .string p3.1, .int .i64 p4.1, .string p5.1, .string p6.1, .bool true, .bool true] 28)) := hW9
      rw [hW9] at HOK
      clear hBw q6 b9 K9 L9 B9 S6 hW9
      go_wp2_with fail
      refine HOK.mono ?_
      rw [← hWW.out]
      rintro r w10 ⟨rfl, b10⟩
      have KK := kept b10 H9.out.2.1 (Nat.le_refl _)
      have JJ := kept b10 H9.out.2.2 (Nat.le_refl _)
      have BB : Below w.heap.size w w10 := H9.out.1.trans (b10.mono H9.out.1.size)
      clear HOK E1 E2 E3 b10
      have o0 := cell_of (i := 0) JJ rfl
      have o1 := cell_of (i := 1) JJ rfl
      have o2 := cell_of (i := 2) JJ rfl
      have o3 := cell_of (i := 3) JJ rfl
      have o4 := cell_of (i := 4) JJ rfl
      have o5 := cell_of (i := 5) JJ rfl
      have o6 := cell_of (i := 6) JJ rfl
      have o7 := cell_of (i := 7) JJ rfl
      clear JJ
      have r0 := cell_of (i := 0) KK rfl
      have u0 := frozen_of KK 0
      have r1 := cell_of (i := 1) KK rfl
      have u1 := frozen_of KK 1
      have r2 := cell_of (i := 2) KK rfl
      have u2 := frozen_of KK 2
      have r3 := cell_of (i := 3) KK rfl
      have u3 := frozen_of KK 3
      have r4 := cell_of (i := 4) KK rfl
      have u4 := frozen_of KK 4
      have r5 := cell_of (i := 5) KK rfl
      have u5 := frozen_of KK 5
      have r6 := cell_of (i := 6) KK rfl
      have u6 := frozen_of KK 6
      have r7 := cell_of (i := 7) KK rfl
      have u7 := frozen_of KK 7
      have HS := eight_sets KK (.int .i64 p1.1) (.int .i64 p2.1) (.string p3.1) (.int .i64 p4.1) (.string p5.1) (.string p6.1) (.bool true) (.bool true)
      obtain ⟨X, hX⟩ : ∃ x, x = ((((((((w10.setCell ⟨w.heap.size, 0, none⟩ (.int .i64 p1.1)).setCell ⟨w.heap.size, 1, none⟩ (.int .i64 p2.1)).setCell ⟨w.heap.size, 2, none⟩ (.string p3.1)).setCell ⟨w.heap.size, 3, none⟩ (.int .i64 p4.1)).setCell ⟨w.heap.size, 4, none⟩ (.string p5.1)).setCell ⟨w.heap.size, 5, none⟩ (.string p6.1)).setCell ⟨w.heap.size, 6, none⟩ (.bool true)).setCell ⟨w.heap.size, 7, none⟩ (.bool true)) := ⟨_, rfl⟩
      rw [← hX] at HS
      have HEnd : Hid (Below w.heap.size w X) := BB.grown HS.2 BB.size (fun k hk => by simp only [Option.some.injEq] at hk; omega)
      have t0 : X.cell? ⟨w.heap.size, 0, none⟩ = some (.int .i64 p1.1) := cell_of HS.1 rfl
      have t1 : X.cell? ⟨w.heap.size, 1, none⟩ = some (.int .i64 p2.1) := cell_of HS.1 rfl
      have t2 : X.cell? ⟨w.heap.size, 2, none⟩ = some (.string p3.1) := cell_of HS.1 rfl
      have t3 : X.cell? ⟨w.heap.size, 3, none⟩ = some (.int .i64 p4.1) := cell_of HS.1 rfl
      have t4 : X.cell? ⟨w.heap.size, 4, none⟩ = some (.string p5.1) := cell_of HS.1 rfl
      have t5 : X.cell? ⟨w.heap.size, 5, none⟩ = some (.string p6.1) := cell_of HS.1 rfl
      have t6 : X.cell? ⟨w.heap.size, 6, none⟩ = some (.bool true) := cell_of HS.1 rfl
      have t7 : X.cell? ⟨w.heap.size, 7, none⟩ = some (.bool true) := cell_of HS.1 rfl
      rw [hX] at t0 t1 t2 t3 t4 t5 t6 t7 HEnd
      clear hX HS KK BB
      go_wp2
      exact bodyPost_ret (v := .tuple #[.agg #[.int .i64 p1.1, .int .i64 p2.1, .string p3.1, .int .i64 p4.1, .string p5.1, .string p6.1, .bool true, .bool true], .int .i64 0]) (by simp [results, Try.results12, go_sem, t0, t1, t2, t3, t4, t5, t6, t7]) rfl ⟨rfl, HEnd.out⟩
end Go.Proofs.Ytdahnooehjdcgaa.rdt
