/- Contracts: spec's JobBytes; the law's own helpers on jobs. -/
import Derived.Test.YtdahnooehjdcgaaSJob
import Derived.Laws.ResultCell
namespace Go.Proofs.Ytdahnooehjdcgaa.sjobs
open Go.ChangeShapes Go.WideShapes Go.ChangeAt Go.RowKit
open Go.Proofs.Ytdahnooehjdcgaa.bytes Go.Proofs.Ytdahnooehjdcgaa.pile Go.Proofs.Ytdahnooehjdcgaa.put Go.Proofs.Ytdahnooehjdcgaa.jhelp Go.Proofs.Ytdahnooehjdcgaa.wr Go.Proofs.Ytdahnooehjdcgaa.jok Go.Proofs.Ytdahnooehjdcgaa.wjob Go.Proofs.Ytdahnooehjdcgaa.ijob Go.Proofs.Ytdahnooehjdcgaa.sjob
set_option linter.unusedVariables false

theorem specBytesI (w : World) (c s : Int) (F : ByteArray) (v : Int) (S T : ByteArray) (e q : Bool) (hR : jobB c s F.size v S.size T.size = true) :
    Calls Try.prog 17 #[.agg #[.int .i64 c, .int .i64 s, .string F, .int .i64 v, .string S, .string T, .bool e, .bool q]] w fun r w' => ∃ u, r = .returned u ∧ Own w' w.heap.size u (jobN c s F v S T e q) ∧ Below w.heap.size w w' := by
  obtain ⟨r1, r2, r3, r4, r5, r6⟩ := jobB_yes hR
  obtain ⟨C, rfl⟩ := Int.eq_ofNat_of_zero_le (show 0 ≤ c by omega)
  obtain ⟨Q, rfl⟩ := Int.eq_ofNat_of_zero_le (show 0 ≤ s by omega)
  obtain ⟨V, rfl⟩ := Int.eq_ofNat_of_zero_le (show 0 ≤ v by omega)
  exact specBytes w C Q V F S T e q hR

set_option maxRecDepth 20000 in
set_option maxHeartbeats 1600000 in
theorem specJob (w : World) (c s : Int) (F : ByteArray) (v : Int) (S T : ByteArray) (e q : Bool) (hF : F.size ≤ maxLen) (hS : S.size ≤ maxLen) (hT : T.size ≤ maxLen) :
    Calls Try.prog 6 #[.agg #[.int .i64 c, .int .i64 s, .string F, .int .i64 v, .string S, .string T, .bool e, .bool q]] w fun r w' => ∃ u, r = .returned (.tuple #[u, .int .i64 (jobC c s F v S T)]) ∧ Own w' w.heap.size u (jobA c s F v S T e q) ∧ Below w.heap.size w w' := by
  obtain ⟨W, hWW⟩ : ∃ W, W = w.alloc (.cells #[.int .i64 c, .int .i64 s, .string F, .int .i64 v, .string S, .string T, .bool e, .bool q] 28) := ⟨_, rfl⟩
  have bW : Below w.heap.size w W := by rw [hWW]; exact (Below.refl _ _).alloc (Nat.le_refl _) _
  have k0 : W.heap[w.heap.size]? = some (.cells #[.int .i64 c, .int .i64 s, .string F, .int .i64 v, .string S, .string T, .bool e, .bool q] 28 (0, 0)) := by rw [hWW]; exact heap_alloc_new w _
  have C1 := specOK W c s F v S T e q hF hS hT
  rw [hWW] at C1
  have HW : Hid (Below w.heap.size w W ∧ W.heap[w.heap.size]? = some (.cells #[.int .i64 c, .int .i64 s, .string F, .int .i64 v, .string S, .string T, .bool e, .bool q] 28 (0, 0))) := ⟨bW, k0⟩
  clear bW k0 hF hS hT
  rcases Bool.eq_false_or_eq_true (jobB c s F.size v S.size T.size) with hR | hR
  · rw [(jobA_yes hR).1, (jobA_yes (e := e) (q := q) hR).2]
    rw [hR] at C1
    have HR : Hid (jobB c s F.size v S.size T.size = true) := hR
    clear hR
    go_enter Try.func6, Try.ntmps6
    go_wp2_with fail
    refine C1.mono ?_
    rw [← hWW]
    rintro r w1 ⟨rfl, b1⟩
    clear C1 hWW
    have hk1 := kept b1 HW.out.2 (Nat.le_refl _)
    have B1 : Below w.heap.size w w1 := HW.out.1.trans (b1.mono HW.out.1.size)
    have e0 := cell_of (i := 0) hk1 rfl
    have e1 := cell_of (i := 1) hk1 rfl
    have e2 := cell_of (i := 2) hk1 rfl
    have e3 := cell_of (i := 3) hk1 rfl
    have e4 := cell_of (i := 4) hk1 rfl
    have e5 := cell_of (i := 5) hk1 rfl
    have e6 := cell_of (i := 6) hk1 rfl
    have e7 := cell_of (i := 7) hk1 rfl
    have J2 := specBytesI w1 c s F v S T e q HR.out
    have HB1 : Hid (Below w.heap.size w w1) := B1
    clear hk1 B1 b1
    go_wp2_with fail
    refine J2.mono ?_
    rintro r w3 ⟨u, rfl, HO, b3⟩
    have HF : Hid (Own w3 w.heap.size u (jobN c s F v S T e q) ∧ Below w.heap.size w w3) := ⟨HO.mono HB1.out.size, HB1.out.trans (b3.mono HB1.out.size)⟩
    clear HO b3 J2 e0 e1 e2 e3 e4 e5 e6 e7
    go_wp2
    go_ret2
    exact ⟨_, rfl, HF.out⟩
  · rw [(jobA_no hR).1, (jobA_no (e := e) (q := q) hR).2]
    rw [hR] at C1
    go_enter Try.func6, Try.ntmps6
    go_wp2_with fail
    refine C1.mono ?_
    rw [← hWW]
    rintro r w1 ⟨rfl, b1⟩
    have HF : Hid (Below w.heap.size w w1) := HW.out.1.trans (b1.mono HW.out.1.size)
    have s1 := HF.out.size
    clear C1 hWW
    go_wp2
    go_ret2
    refine ⟨_, rfl, ?_, HF.out.alloc s1 _⟩
    exact Own.mono (w := w1.alloc (.cells #[] 5)) (base := w1.heap.size) (xs := []) ⟨by simp, World.ownsRow_lit w1 #[] 0 (Nat.le_refl _) (by simp [maxLen]) (by simp)⟩ s1

/-- How large a job is. -/
theorem sz_job (w : World) (c s : Int) (F : ByteArray) (v : Int) (S T : ByteArray) (e q : Bool) (hF : F.size ≤ maxLen) (hS : S.size ≤ maxLen) (hT : T.size ≤ maxLen) :
    Calls Try.prog 5 #[.agg #[.int .i64 c, .int .i64 s, .string F, .int .i64 v, .string S, .string T, .bool e, .bool q], .int .i64 1048576] w fun r w' => (∃ m : Int, r = .returned (.int .i64 m)) ∧ Below w.heap.size w w' := by
  unfold maxLen at hF hS hT
  have HB : Hid (Below w.heap.size w (w.alloc (.cells #[.int .i64 c, .int .i64 s, .string F, .int .i64 v, .string S, .string T, .bool e, .bool q] 23))) := (Below.refl _ _).alloc (Nat.le_refl _) _
  by_cases h1 : (1048576 : Int) - F.size < 0
  · go_enter Try.func5, Try.ntmps5
    go_wp2
    go_ret
    exact ⟨⟨_, rfl⟩, HB.out⟩
  · by_cases h2 : (1048576 : Int) - F.size - S.size < 0
    · go_enter Try.func5, Try.ntmps5
      go_wp2
      go_ret
      exact ⟨⟨_, rfl⟩, HB.out⟩
    · by_cases h3 : (1048576 : Int) - F.size - S.size - T.size < 0
      · go_enter Try.func5, Try.ntmps5
        go_wp2
        go_ret
        exact ⟨⟨_, rfl⟩, HB.out⟩
      · go_enter Try.func5, Try.ntmps5
        go_wp2
        go_ret
        exact ⟨⟨_, rfl⟩, HB.out⟩

theorem to_job (w : World) (c s : Int) (F : ByteArray) (v : Int) (S T : ByteArray) (e q : Bool) :
    Calls Try.prog 7 #[.agg #[.int .i64 c, .int .i64 s, .string F, .int .i64 v, .string S, .string T, .bool e, .bool q]] w fun r w' => r = .returned (.agg #[.int .i64 c, .int .i64 s, .string F, .int .i64 v, .string S, .string T, .bool e, .bool q]) ∧ Below w.heap.size w w' := by
  go_enter Try.func7, Try.ntmps7
  go_wp2
  exact bodyPost_ret (v := .agg #[.int .i64 c, .int .i64 s, .string F, .int .i64 v, .string S, .string T, .bool e, .bool q]) (by simp [results, Try.results7, go_sem]) rfl ⟨rfl, (((Below.refl _ _).alloc (Nat.le_refl _) _).alloc (by simp) _).alloc (by simp; omega) _⟩
end Go.Proofs.Ytdahnooehjdcgaa.sjobs
