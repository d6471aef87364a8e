/- Contracts: a job written by the program; impl's JobBytes. -/
import Derived.Test.YtolmngfjdcoapaaDoorWJob
namespace Go.Proofs.YtolmngfjdcoapaaDoor.ijob
open Go.ChangeShapes Go.WideShapes Go.ChangeAt Go.RowKit
open Go.Proofs.YtolmngfjdcoapaaDoor.bytes Go.Proofs.YtolmngfjdcoapaaDoor.pile Go.Proofs.YtolmngfjdcoapaaDoor.put Go.Proofs.YtolmngfjdcoapaaDoor.jhelp Go.Proofs.YtolmngfjdcoapaaDoor.wr Go.Proofs.YtolmngfjdcoapaaDoor.jok Go.Proofs.YtolmngfjdcoapaaDoor.wjob
set_option linter.unusedVariables false

theorem Wrt.lt {w : World} {base d : Nat} {xs : List Int} (h : Wrt w base d xs) : d < w.heap.size := by obtain ⟨o, n, c, h, _⟩ := h; exact (Array.getElem?_eq_some_iff.1 h).1

theorem numbers_two (w : World) (base d : Nat) (a b : Int) (xs : List Int) (hW : Wrt w base d xs) (hbd : base ≤ d) (ha : 0 ≤ a ∧ a ≤ 1000000) (hb : 0 ≤ b ∧ b ≤ 1000000) (hxl : xs.length ≤ 1000000) :
    Calls Tryd.prog 41 #[.pointer (some ⟨d, 0, none⟩), .slice (some ⟨w.heap.size, 0, none⟩) 2 2] (w.alloc (.cells #[.int .i64 a, .int .i64 b] 3)) fun r w' => r = .returned (.tuple #[]) ∧ Wrt w' base d (xs ++ (putN a.toNat ++ putN b.toNat)) ∧ Below base w w' ∧ Kp w w' := by
  obtain ⟨A, rfl⟩ := Int.eq_ofNat_of_zero_le ha.1
  obtain ⟨B, rfl⟩ := Int.eq_ofNat_of_zero_le hb.1
  have hlt := Wrt.lt hW
  have bW : Below w.heap.size w (w.alloc (.cells #[.int .i64 A, .int .i64 B] 3)) := (Below.refl _ _).alloc (Nat.le_refl _) _
  refine (numbers_any _ base d w.heap.size [A, B] xs (hW.below bW) hbd (heap_alloc_new w _) (by simp; omega) (by simp) (by omega)).mono ?_
  rintro r w' ⟨rfl, h1, h2, h3⟩
  exact ⟨rfl, by simpa using h1, (bW.mono (by omega)).trans h2, (Kp.below bW).trans h3⟩

theorem numbers_one (w : World) (base d : Nat) (a : Int) (xs : List Int) (hW : Wrt w base d xs) (hbd : base ≤ d) (ha : 0 ≤ a ∧ a ≤ 1000000) (hxl : xs.length ≤ 1000000) :
    Calls Tryd.prog 41 #[.pointer (some ⟨d, 0, none⟩), .slice (some ⟨w.heap.size, 0, none⟩) 1 1] (w.alloc (.cells #[.int .i64 a] 3)) fun r w' => r = .returned (.tuple #[]) ∧ Wrt w' base d (xs ++ putN a.toNat) ∧ Below base w w' ∧ Kp w w' := by
  obtain ⟨A, rfl⟩ := Int.eq_ofNat_of_zero_le ha.1
  have hlt := Wrt.lt hW
  have bW : Below w.heap.size w (w.alloc (.cells #[.int .i64 A] 3)) := (Below.refl _ _).alloc (Nat.le_refl _) _
  refine (numbers_any _ base d w.heap.size [A] xs (hW.below bW) hbd (heap_alloc_new w _) (by simp; omega) (by simp) (by omega)).mono ?_
  rintro r w' ⟨rfl, h1, h2, h3⟩
  exact ⟨rfl, by simpa using h1, (bW.mono (by omega)).trans h2, (Kp.below bW).trans h3⟩

set_option maxRecDepth 20000 in
set_option maxHeartbeats 3200000 in
theorem job_any (w : World) (base d : Nat) (c s : Int) (F : ByteArray) (v : Int) (S T : ByteArray) (e q : Bool) (hW : Wrt w base d []) (hbd : base ≤ d) (hR : jobB c s F.size v S.size T.size = true) :
    Calls Tryd.prog 34 #[.pointer (some ⟨d, 0, none⟩), .agg #[.int .i64 c, .int .i64 s, .string F, .int .i64 v, .string S, .string T, .bool e, .bool q]] w fun r w' => r = .returned (.tuple #[]) ∧ Wrt w' base d (jobN c s F v S T e q) ∧ Below base w w' := by
  obtain ⟨r1, r2, r3, r4, r5, r6⟩ := jobB_yes hR
  have l1 := put3 (n := c.toNat) (by omega)
  have l2 := put3 (n := s.toNat) (by omega)
  have l3 := put3 (n := v.toNat) (by omega)
  have l4 := textN_len (s := F) (by omega)
  have l5 := textN_len r5
  have l6 := textN_len r6
  have HL : Hid ((putN c.toNat).length ≤ 3 ∧ (putN s.toNat).length ≤ 3 ∧ (putN v.toNat).length ≤ 3 ∧ (textN F).length ≤ 2003 ∧ (textN S).length ≤ 2003 ∧ (textN T).length ≤ 2003) := ⟨l1, l2, l3, l4, l5, l6⟩
  have HRg : Hid ((1 ≤ c ∧ c ≤ 1000000) ∧ (1 ≤ s ∧ s ≤ 1000000) ∧ (0 ≤ v ∧ v ≤ 1000000) ∧ F.size ≤ 40 ∧ S.size ≤ 2000 ∧ T.size ≤ 2000) := ⟨r1, r2, r3, r4, r5, r6⟩
  obtain ⟨W, hWW⟩ : ∃ W, W = w.alloc (.cells #[.int .i64 c, .int .i64 s, .string F, .int .i64 v, .string S, .string T, .bool e, .bool q] 50) := ⟨_, rfl⟩
  have bW : Below w.heap.size w W := by rw [hWW]; exact (Below.refl _ _).alloc (Nat.le_refl _) _
  have k0 : W.heap[w.heap.size]? = some (.cells #[.int .i64 c, .int .i64 s, .string F, .int .i64 v, .string S, .string T, .bool e, .bool q] 50 (0, 0)) := by rw [hWW]; exact heap_alloc_new w _
  have hlt := Wrt.lt hW
  have HB0 : Hid (Below base w W) := bW.mono (by omega)
  have hW0 := hW.below bW
  have zW : W.heap.size = w.heap.size + 1 := by rw [hWW]; simp
  have HK : Hid (∀ wx, Kp W wx → wx.heap[w.heap.size]? = some (.cells #[.int .i64 c, .int .i64 s, .string F, .int .i64 v, .string S, .string T, .bool e, .bool q] 50 (0, 0))) := fun wx h => h.2 _ _ _ _ k0 (by decide) (by decide)
  have C1 := numbers_two W base d c s [] hW0 hbd (by omega) (by omega) (by simp)
  rw [zW, hWW] at C1
  clear r1 r2 r3 r4 r5 r6 l1 l2 l3 l4 l5 l6 hR k0 bW hW hW0 zW
  go_enter Tryd.func34, Tryd.ntmps34
  go_wp2_with fail
  refine C1.mono ?_
  rw [← hWW]
  rintro r w1 ⟨rfl, W1, b1, k1⟩
  simp only [List.nil_append] at W1
  clear C1 hWW
  have B1 : Below base w w1 := HB0.out.trans b1
  have c2 := cell_of (i := 2) (HK.out w1 k1) rfl
  have T1 := text_any w1 base d F _ W1 hbd (by have := HRg.out; omega) (by have := HL.out; simp only [List.length_append]; omega)
  clear W1 b1
  go_wp2_with fail
  refine T1.mono ?_
  rintro r w2 ⟨rfl, W2, b2, k2⟩
  clear T1 c2
  have B2 := B1.trans b2
  have K2 := k1.trans k2
  have c3 := cell_of (i := 3) (HK.out w2 K2) rfl
  have N2 := numbers_one w2 base d v _ W2 hbd HRg.out.2.2.1 (by have := HL.out; simp only [List.length_append]; omega)
  clear W2 B1 b2 k1 k2
  go_wp2_with fail
  refine N2.mono ?_
  rintro r w3 ⟨rfl, W3, b3, k3⟩
  clear N2 c3
  have B3 := B2.trans b3
  have K3 := K2.trans k3
  have c4 := cell_of (i := 4) (HK.out w3 K3) rfl
  have T3 := text_any w3 base d S _ W3 hbd HRg.out.2.2.2.2.1 (by have := HL.out; simp only [List.length_append]; omega)
  clear W3 B2 b3 K2 k3
  go_wp2_with fail
  refine T3.mono ?_
  rintro r w4 ⟨rfl, W4, b4, k4⟩
  clear T3 c4
  have B4 := B3.trans b4
  have K4 := K3.trans k4
  have c5 := cell_of (i := 5) (HK.out w4 K4) rfl
  have T4 := text_any w4 base d T _ W4 hbd HRg.out.2.2.2.2.2 (by have := HL.out; simp only [List.length_append]; omega)
  clear W4 B3 b4 K3 k4
  go_wp2_with fail
  refine T4.mono ?_
  rintro r w5 ⟨rfl, W5, b5, k5⟩
  clear T4 c5
  have B5 := B4.trans b5
  have K5 := K4.trans k5
  have e0 := cell_of (i := 0) (HK.out w5 K5) rfl
  have e1 := cell_of (i := 1) (HK.out w5 K5) rfl
  have e2 := cell_of (i := 2) (HK.out w5 K5) rfl
  have e3 := cell_of (i := 3) (HK.out w5 K5) rfl
  have e4 := cell_of (i := 4) (HK.out w5 K5) rfl
  have e5 := cell_of (i := 5) (HK.out w5 K5) rfl
  have e6 := cell_of (i := 6) (HK.out w5 K5) rfl
  have e7 := cell_of (i := 7) (HK.out w5 K5) rfl
  have G5 := flags_any w5 base d c s F v S T e q _ W5 hbd (by have := HL.out; simp only [List.length_append]; omega)
  have B5' : Hid (Below base w w5) := B5
  clear W5 B4 b5 K4 k5 K5 B5 HK
  go_wp2_with fail
  refine G5.mono ?_
  rintro r w6 ⟨rfl, W6, b6⟩
  have HF : Hid (Wrt w6 base d (jobN c s F v S T e q) ∧ Below base w w6) := ⟨W6, B5'.out.trans b6⟩
  clear G5 W6 b6
  go_wp2
  go_end0
  exact ⟨rfl, HF.out⟩

/-- What JobBytes says. -/
def jobA (c s : Int) (F : ByteArray) (v : Int) (S T : ByteArray) (e q : Bool) : List Int := if jobB c s F.size v S.size T.size = true then jobN c s F v S T e q else []
def jobC (c s : Int) (F : ByteArray) (v : Int) (S T : ByteArray) : Int := if jobB c s F.size v S.size T.size = true then 0 else 1
theorem jobA_yes {c s : Int} {F : ByteArray} {v : Int} {S T : ByteArray} {e q : Bool} (h : jobB c s F.size v S.size T.size = true) : jobA c s F v S T e q = jobN c s F v S T e q ∧ jobC c s F v S T = 0 := by simp [jobA, jobC, h]
theorem jobA_no {c s : Int} {F : ByteArray} {v : Int} {S T : ByteArray} {e q : Bool} (h : jobB c s F.size v S.size T.size = false) : jobA c s F v S T e q = [] ∧ jobC c s F v S T = 1 := by simp [jobA, jobC, h]
theorem jobA_len (c s : Int) (F : ByteArray) (v : Int) (S T : ByteArray) (e q : Bool) : (jobA c s F v S T e q).length ≤ 6020 := by
  unfold jobA
  split
  · rename_i h; exact jobN_len h
  · simp

set_option maxRecDepth 20000 in
set_option maxHeartbeats 1600000 in
theorem implJob (w : World) (c s : Int) (F : ByteArray) (v : Int) (S T : ByteArray) (e q : Bool) (hF : F.size ≤ maxLen) (hS : S.size ≤ maxLen) (hT : T.size ≤ maxLen) :
    Calls Tryd.prog 29 #[.agg #[.int .i64 c, .int .i64 s, .string F, .int .i64 v, .string S, .string T, .bool e, .bool q]] w fun r w' => ∃ u, r = .returned (.tuple #[u, .int .i64 (jobC c s F v S T)]) ∧ Own w' w.heap.size u (jobA c s F v S T e q) ∧ Below w.heap.size w w' := by
  obtain ⟨W, hWW⟩ : ∃ W, W = w.alloc (.cells #[.int .i64 c, .int .i64 s, .string F, .int .i64 v, .string S, .string T, .bool e, .bool q] 50) := ⟨_, rfl⟩
  have bW : Below w.heap.size w W := by rw [hWW]; exact (Below.refl _ _).alloc (Nat.le_refl _) _
  have k0 : W.heap[w.heap.size]? = some (.cells #[.int .i64 c, .int .i64 s, .string F, .int .i64 v, .string S, .string T, .bool e, .bool q] 50 (0, 0)) := by rw [hWW]; exact heap_alloc_new w _
  have C1 := implOK W c s F v S T e q hF hS hT
  rw [hWW] at C1
  have HW : Hid (Below w.heap.size w W ∧ W.heap[w.heap.size]? = some (.cells #[.int .i64 c, .int .i64 s, .string F, .int .i64 v, .string S, .string T, .bool e, .bool q] 50 (0, 0))) := ⟨bW, k0⟩
  clear bW k0 hF hS hT
  rcases Bool.eq_false_or_eq_true (jobB c s F.size v S.size T.size) with hR | hR
  · rw [(jobA_yes hR).1, (jobA_yes (e := e) (q := q) hR).2]
    rw [hR] at C1
    have HR : Hid (jobB c s F.size v S.size T.size = true) := hR
    clear hR
    go_enter Tryd.func29, Tryd.ntmps29
    go_wp2_with fail
    refine C1.mono ?_
    rw [← hWW]
    rintro r w1 ⟨rfl, b1⟩
    clear C1 hWW
    have hk1 := kept b1 HW.out.2 (Nat.le_refl _)
    have B1 : Below w.heap.size w w1 := HW.out.1.trans (b1.mono HW.out.1.size)
    obtain ⟨W2, hW2⟩ : ∃ X, X = w1.alloc (.cells #[.slice none 0 0] 70) := ⟨_, rfl⟩
    have b2 : Below w1.heap.size w1 W2 := by rw [hW2]; exact (Below.refl _ _).alloc (Nat.le_refl _) _
    have hk2 := kept b2 hk1 (Nat.le_refl _)
    have e0 : W2.cell? ⟨w.heap.size, 0, none⟩ = _ := cell_of (i := 0) hk2 rfl
    have e1 := cell_of (i := 1) hk2 rfl
    have e2 := cell_of (i := 2) hk2 rfl
    have e3 := cell_of (i := 3) hk2 rfl
    have e4 := cell_of (i := 4) hk2 rfl
    have e5 := cell_of (i := 5) hk2 rfl
    have e6 := cell_of (i := 6) hk2 rfl
    have e7 := cell_of (i := 7) hk2 rfl
    have s1 := B1.size
    have J2 := job_any W2 w.heap.size w1.heap.size c s F v S T e q ⟨none, 0, 0, by rw [hW2]; exact heap_alloc_new w1 _, by simp, World.ownsRow_nil _ _ _ _⟩ s1 HR.out
    have HB2 : Hid (Below w.heap.size w W2) := B1.trans (b2.mono s1)
    rw [hW2] at J2 e0 e1 e2 e3 e4 e5 e6 e7
    clear b2 hk1 hk2 B1 b1
    go_wp2_with fail
    refine J2.mono ?_
    rw [← hW2]
    rintro r w3 ⟨rfl, W3, b3⟩
    obtain ⟨o, n, m, hd, HO⟩ := W3
    have cd : w3.cell? ⟨w1.heap.size, 0, none⟩ = some (.slice o n m) := cell_of hd rfl
    have HF : Hid (Own w3 w.heap.size (.slice o n m) (jobN c s F v S T e q) ∧ Below w.heap.size w w3) := ⟨HO, HB2.out.trans b3⟩
    clear hd HO b3 J2 hW2 e0 e1 e2 e3 e4 e5 e6 e7
    go_wp2
    go_ret2
    exact ⟨_, rfl, HF.out⟩
  · rw [(jobA_no hR).1, (jobA_no (e := e) (q := q) hR).2]
    rw [hR] at C1
    go_enter Tryd.func29, Tryd.ntmps29
    go_wp2_with fail
    refine C1.mono ?_
    rw [← hWW]
    rintro r w1 ⟨rfl, b1⟩
    have HF : Hid (Below w.heap.size w w1) := HW.out.1.trans (b1.mono HW.out.1.size)
    clear C1 hWW
    go_wp2
    go_ret2
    exact ⟨_, rfl, ⟨by simp, World.ownsRow_nil _ _ _ _⟩, HF.out⟩
end Go.Proofs.YtolmngfjdcoapaaDoor.ijob
