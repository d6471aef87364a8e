/- Contracts of an entry's bounds. -/
import Derived.Test.YtipcdioolafkpaaRecs
import Derived.Test.YtipcdioolafkpaaSteps
namespace Go.Proofs.Ytipcdioolafkpaa.entries
open Go.ChangeShapes Go.WideShapes Go.ChangeAt Go.RowKit
open Go.Proofs.Ytipcdioolafkpaa.bytes Go.Proofs.Ytipcdioolafkpaa.pile Go.Proofs.Ytipcdioolafkpaa.put Go.Proofs.Ytipcdioolafkpaa.crcs Go.Proofs.Ytipcdioolafkpaa.join Go.Proofs.Ytipcdioolafkpaa.frames Go.Proofs.Ytipcdioolafkpaa.votes Go.Proofs.Ytipcdioolafkpaa.pays Go.Proofs.Ytipcdioolafkpaa.recs Go.Proofs.Ytipcdioolafkpaa.steps
set_option linter.unusedVariables false

/-- A record is in its bounds. -/
def recOK (t i : Int) (n : Nat) : Bool := (inB t && inB i) && decide (1 ≤ i) && decide (n ≤ 1000)
theorem recOK_yes {t i : Int} {n : Nat} (h : recOK t i n = true) : (∃ T : Nat, t = (T : Int) ∧ T ≤ 1000000) ∧ (∃ I : Nat, i = (I : Int) ∧ I ≤ 1000000 ∧ 1 ≤ I) ∧ n ≤ 1000 := by
  simp only [recOK, Bool.and_eq_true, decide_eq_true_eq] at h
  obtain ⟨⟨⟨h1, h2⟩, h3⟩, h4⟩ := h
  obtain ⟨T, rfl, hT⟩ := inB_nat h1
  obtain ⟨I, rfl, hI⟩ := inB_nat h2
  exact ⟨⟨T, rfl, hT⟩, ⟨I, rfl, hI, by omega⟩, h4⟩

/-- What an entry's record is, and its code. -/
def entA (t i : Int) (ys : List Int) : List Int := if recOK t i ys.length = true then frameN (2 :: (putN t.toNat ++ (putN i.toNat ++ ys))) else []
def entC (t i : Int) (ys : List Int) : Int := if recOK t i ys.length = true then 0 else 5
theorem ent_yes {t i : Int} {ys : List Int} (h : recOK t i ys.length = true) : entA t i ys = frameN (2 :: (putN t.toNat ++ (putN i.toNat ++ ys))) ∧ entC t i ys = 0 := by simp [entA, entC, h]
theorem ent_no {t i : Int} {ys : List Int} (h : recOK t i ys.length = false) : entA t i ys = [] ∧ entC t i ys = 5 := by simp [entA, entC, h]
theorem ent_len (t i : Int) (ys : List Int) : (entA t i ys).length ≤ 65550 := by
  rcases Bool.eq_false_or_eq_true (recOK t i ys.length) with h | h
  · rw [(ent_yes h).1]
    obtain ⟨⟨T, rfl, hT⟩, ⟨I, rfl, hI, _⟩, hn⟩ := recOK_yes h
    obtain ⟨l1, l2⟩ := pay_len T I hT hI
    rw [Int.toNat_natCast, Int.toNat_natCast]
    exact frameN_len (by simp; omega)
  · rw [(ent_no h).1]; simp

set_option maxHeartbeats 800000 in
theorem entry_in (w : World) (t i : Int) (o : Option Addr) (n c : Nat) (hn : n ≤ maxLen) :
    Calls Try.prog 82 #[.agg #[.int .i64 t, .int .i64 i, .slice o n c]] w fun e w' => e = .returned (.bool (recOK t i n)) ∧ Below w.heap.size w w' := by
  unfold maxLen at hn
  obtain ⟨W, hW⟩ : ∃ W, W = (w.alloc (.cells #[.int .i64 t, .int .i64 i, .slice o n c] 122)).alloc (.cells #[.int .i64 t, .int .i64 i] 3) := ⟨_, rfl⟩
  have HB : Hid (Below w.heap.size w W) := by rw [hW]; exact ((Below.refl _ _).alloc (Nat.le_refl _) _).alloc (by simp) _
  have k0 : W.heap[w.heap.size]? = some (.cells #[.int .i64 t, .int .i64 i, .slice o n c] 122 (0, 0)) := by rw [hW, Below.heap_alloc _ _ _ (by simp)]; exact heap_alloc_new w _
  have k1 : W.heap[w.heap.size + 1]? = some (.cells #[.int .i64 t, .int .i64 i] 3 (0, 0)) := by rw [hW]; exact new_at (by simp)
  have c1 : W.cell? ⟨w.heap.size, 1, none⟩ = some (.int .i64 i) := by simp [World.cell?, k0]
  have c2 : W.cell? ⟨w.heap.size, 2, none⟩ = some (.slice o n c) := by simp [World.cell?, k0]
  have hC := terms_two W (w.heap.size + 1) t i k1
  rw [hW] at hC
  clear k0 k1
  rcases Bool.eq_false_or_eq_true (inB t && inB i) with hy | hy
  · have HY : Hid ((inB t && inB i) = true) := hy
    clear hy
    by_cases h1 : 1 ≤ i
    · by_cases h2 : n ≤ 1000
      · have HE : Hid (recOK t i n = true) := by unfold Hid recOK; rw [HY.out]; simp [h1, h2]
        have h2' : (n : Int) ≤ 1000 := by omega
        go_enter Try.func82, Try.ntmps82
        go_wp2_with fail
        refine hC.mono ?_
        rw [← hW]
        rintro e w1 ⟨rfl, rfl⟩
        rw [HY.out]
        go_wp2
        go_ret
        exact ⟨ret_bool (by first | exact HE.out.symm | (rw [HE.out]; simp; omega)), by first | exact HB.out | (rw [← hW]; exact HB.out)⟩
      · have HE : Hid (recOK t i n = false) := by unfold Hid recOK; simp [h2]
        have h2' : (1000 : Int) < n := by omega
        go_enter Try.func82, Try.ntmps82
        go_wp2_with fail
        refine hC.mono ?_
        rw [← hW]
        rintro e w1 ⟨rfl, rfl⟩
        rw [HY.out]
        go_wp2
        go_ret
        exact ⟨ret_bool (by first | exact HE.out.symm | (rw [HE.out]; simp; omega)), by first | exact HB.out | (rw [← hW]; exact HB.out)⟩
    · have HE : Hid (recOK t i n = false) := by unfold Hid recOK; simp [h1]
      have h1' : i < 1 := by omega
      go_enter Try.func82, Try.ntmps82
      go_wp2_with fail
      refine hC.mono ?_
      rw [← hW]
      rintro e w1 ⟨rfl, rfl⟩
      rw [HY.out]
      go_wp2
      go_ret
      exact ⟨ret_bool (by first | exact HE.out.symm | (rw [HE.out]; simp; omega)), by first | exact HB.out | (rw [← hW]; exact HB.out)⟩
  · have HY : Hid ((inB t && inB i) = false) := hy
    have HE : Hid (recOK t i n = false) := by unfold Hid recOK; rw [hy]; rfl
    clear hy
    go_enter Try.func82, Try.ntmps82
    go_wp2_with fail
    refine hC.mono ?_
    rw [← hW]
    rintro e w1 ⟨rfl, rfl⟩
    rw [HY.out]
    go_wp2
    go_ret
    exact ⟨ret_bool (by first | exact HE.out.symm | (rw [HE.out]; simp; omega)), by first | exact HB.out | (rw [← hW]; exact HB.out)⟩

end Go.Proofs.Ytipcdioolafkpaa.entries
