/- The constants of the hash, as the program reckons them. -/
import Derived.Test.YtkkildgdeagpeahPrimes
namespace Go.Proofs.Ytkkildgdeagpeah.rule
open Go.ChangeShapes Go.WideShapes Go.ChangeAt Go.RowKit
open Go.Proofs.Ytkkildgdeagpeah.bytes Go.Proofs.Ytkkildgdeagpeah.rot Go.Proofs.Ytkkildgdeagpeah.root Go.Proofs.Ytkkildgdeagpeah.arr Go.Proofs.Ytkkildgdeagpeah.primes
set_option linter.unusedVariables false

/-- The constants: eight for the beginning, 64 for the rounds. -/
def ruleL : List Nat := [1779033703, 3144134277, 1013904242, 2773480762, 1359893119, 2600822924, 528734635, 1541459225, 1116352408, 1899447441, 3049323471, 3921009573, 961987163, 1508970993, 2453635748, 2870763221, 3624381080, 310598401, 607225278, 1426881987, 1925078388, 2162078206, 2614888103, 3248222580, 3835390401, 4022224774, 264347078, 604807628, 770255983, 1249150122, 1555081692, 1996064986, 2554220882, 2821834349, 2952996808, 3210313671, 3336571891, 3584528711, 113926993, 338241895, 666307205, 773529912, 1294757372, 1396182291, 1695183700, 1986661051, 2177026350, 2456956037, 2730485921, 2820302411, 3259730800, 3345764771, 3516065817, 3600352804, 4094571909, 275423344, 430227734, 506948616, 659060556, 883997877, 958139571, 1322822218, 1537002063, 1747873779, 1955562222, 2024104815, 2227730452, 2361852424, 2428436474, 2756734187, 3204031479, 3329325298]
def rl (j : Nat) : List Nat := ruleL.take (min j 8) ++ List.replicate (8 - min j 8) 0 ++ (ruleL.drop 8).take j ++ List.replicate (64 - j) 0
theorem rl_zero : rl 0 = List.replicate 72 0 := by decide +kernel
theorem rl_all : rl 64 = ruleL := by decide +kernel
theorem rl_len : ∀ j, j < 65 → (rl j).length = 72 := by decide +kernel
theorem rl_low : ∀ j, j < 8 → ((rl j).set j (ruleL.getD j 0)).set (8 + j) (ruleL.getD (8 + j) 0) = rl (j + 1) := by decide +kernel
theorem rl_high : ∀ j, j < 64 → 8 ≤ j → (rl j).set (8 + j) (ruleL.getD (8 + j) 0) = rl (j + 1) := by decide +kernel
theorem root2 : ∀ j, j < 8 → rootTo ((prT 312).getD j 0) sqH 36 % 4294967296 = ruleL.getD j 0 := by rw [prT_312]; decide +kernel
theorem root3 : ∀ j, j < 64 → rootTo ((prT 312).getD j 0 * 4294967296) cuH 36 % 4294967296 = ruleL.getD (8 + j) 0 := by rw [prT_312]; decide +kernel
theorem pr_lt : ∀ j, j < 64 → (prT 312).getD j 0 < 312 := by rw [prT_312]; decide +kernel
theorem run_index_vals (W : World) (t e n : Nat) (k : IntKind) (xs : List Nat) (i : Nat) (hu : Try.prog.underlying t = some (.array n e)) (hs : ∀ W, (sizeOf e).run Try.prog W = .ok 1 W) (ha : ∀ W, (isAgg e).run Try.prog W = .ok false W) (hn : xs.length = n) (hi : i < n) :
    (Instr.index t (.agg (vals k xs).toArray) (.int .i64 (i : Nat))).run Try.prog W = .ok (.int k (xs.getD i 0 : Nat)) W := by
  have h1 : (0 : Int) ≤ i ∧ (i : Int) < n := by omega
  have hg : (vals k xs).toArray[i]? = some (.int k (xs.getD i 0 : Nat)) := by
    have := vals_get (k := k) (xs := xs) (i := i) (by omega)
    simpa using this
  simp only [Instr.index, asIntOf, Sem.run_bind, Sem.run_pure, Result.andThen_ok, run_underlying hu, if_pos h1, hs, part, ha, Int.toNat_natCast, Nat.mul_one, hg]
  simp
theorem size82 (W : World) : (sizeOf 82).run Try.prog W = .ok 1 W := by kernel_rfl
theorem agg82 (W : World) : (isAgg 82).run Try.prog W = .ok false W := by kernel_rfl
theorem zc57 : Try.zeroCells57 = (vals .u32 (List.replicate 72 0)).toArray := by kernel_rfl
theorem size57 : (Try.prog.info? 57).map (·.size) = some 72 := by kernel_rfl

set_option maxRecDepth 20000 in
set_option maxHeartbeats 4000000 in
theorem newHashRule_any (w : World) :
    Calls Try.prog 27 #[] w fun e w' => e = .returned (.agg (vals .u32 ruleL).toArray) ∧ Below w.heap.size w w' := by
  obtain ⟨W2, hW2⟩ : ∃ W2, W2 = (w.alloc (.cells Try.zeroCells57 57)).alloc (.cells Try.zeroCells57 57) := ⟨_, rfl⟩
  have s2 : W2.heap.size = w.heap.size + 2 := by rw [hW2]; simp
  have HS : Hid (Arr W2 w.heap.size 57 .u32 (List.replicate 72 0) ∧ Arr W2 (w.heap.size + 1) 57 .u32 (List.replicate 72 0) ∧ Below w.heap.size w W2) := by
    refine hide ⟨?_, ?_, ?_⟩
    · rw [hW2]; exact (Arr.new w 57 .u32 (List.replicate 72 0) Try.zeroCells57 zc57).alloc _
    · rw [hW2]
      have h := Arr.new (w.alloc (.cells Try.zeroCells57 57)) 57 .u32 (List.replicate 72 0) Try.zeroCells57 zc57
      simpa using h
    · rw [hW2]; exact ((Below.refl _ _).alloc (Nat.le_refl _) _).alloc (by simp) _
  have HP := hide (firstPrimes_any W2)
  go_enter Try.func27, Try.ntmps27
  go_wp2_with fail
  rw [← hW2]
  clear hW2
  refine HP.out.mono ?_
  rintro e w3 ⟨rfl, B3⟩
  have HS3 : Hid (Arr w3 w.heap.size 57 .u32 (List.replicate 72 0) ∧ Arr w3 (w.heap.size + 1) 57 .u32 (List.replicate 72 0) ∧ Below w.heap.size w w3) := hide ⟨HS.out.1.below B3 (by omega), HS.out.2.1.below B3 (by omega), HS.out.2.2.trans (B3.mono (by omega))⟩
  clear HS HP B3 s2
  go_wp2
  go_loopw [5] (fun i wr => ∃ j : Nat, j ≤ 64 ∧ i = .int .i64 j ∧ Hid (Arr wr w.heap.size 57 .u32 (List.replicate 72 0) ∧ Arr wr (w.heap.size + 1) 57 .u32 (rl j) ∧ Below w.heap.size w wr)) (fun i _ => 64 - (intOf i).toNat)
  case atStart => exact ⟨0, by omega, rfl, hide ⟨HS3.out.1, by rw [rl_zero]; exact HS3.out.2.1, HS3.out.2.2⟩⟩
  case round =>
    obtain ⟨j, hj, rfl, HR⟩ := hrel
    clear HS3
    by_cases hlt : j < 64
    · have hix := run_index_vals wr 83 82 64 .u64 (prT 312) j Try.underlying83 size82 agg82 prT_len hlt
      have hp := pr_lt j hlt
      have HK := hide (root3 j hlt)
      have hl72 := rl_len j (by omega)
      have ca := HR.out.2.1.cell (i := 8 + j) (by omega)
      have fa := HR.out.2.1.frozen (8 + j)
      by_cases h8 : j < 8
      · have HQ := hide (root2 j h8)
        generalize (prT 312).getD j 0 = p at hix hp HK HQ
        have H1 := hide (root_square wr p (by omega))
        rw [HQ.out] at H1
        have cb := HR.out.2.1.cell (i := j) (by omega)
        have fb := HR.out.2.1.frozen j
        go_wp2_with fail
        refine H1.out.mono ?_
        rintro e w' ⟨rfl, rfl⟩
        have HA1 := hide (HR.out.2.1.set j (ruleL.getD j 0) _ rfl)
        have HS1 : Hid (((rl j).set j (ruleL.getD j 0)).set (8 + j) (ruleL.getD (8 + j) 0) = rl (j + 1)) := rl_low j h8
        generalize (rl j).set j (ruleL.getD j 0) = L1 at HA1 HS1
        have hL1 : L1.length = 72 := by
          have h := congrArg List.length HS1.out
          rw [List.length_set, rl_len (j + 1) (by omega)] at h
          exact h
        have HB1 := hide (HR.out.2.2.setCell (p := ⟨w.heap.size + 1, j, none⟩) (by simp) (.int .u32 (ruleL.getD j 0 : Nat)))
        have HA0 := hide (HR.out.1.setNe (b := w.heap.size + 1) (by omega) j (.int .u32 (ruleL.getD j 0 : Nat)))
        have H2 : Hid (∀ W, Calls Try.prog 49 #[.int .u64 ((p : Int) * 4294967296), .func (.func 51) #[] #[]] W fun e w' => e = .returned (.int .u32 (ruleL.getD (8 + j) 0 : Nat)) ∧ w' = W) := hide (fun W => by
          have h := root_cube W (p * 4294967296) (by omega)
          rw [HK.out, Int.natCast_mul] at h
          exact h)
        generalize ruleL.getD j 0 = V at HA1 HB1 HA0 ⊢
        go_wp2_with fail
        have ca1 := HA1.out.cell (i := 8 + j) (by omega)
        have fa1 := HA1.out.frozen (8 + j)
        generalize w'.setCell ⟨w.heap.size + 1, j, none⟩ (.int .u32 (V : Nat)) = W1 at HA1 HB1 HA0 ca1 fa1 ⊢
        refine (H2.out _).mono ?_
        rintro e w2 ⟨rfl, rfl⟩
        go_wp2
        go_roundw
        case rel => exact ⟨j + 1, by omega, by go_num, hide ⟨HA0.out.setNe (by omega) _ _, by rw [← HS1.out]; exact HA1.out.set (8 + j) _ _ rfl, HB1.out.setCell (by simp) _⟩⟩
        case measure => simp [intOf]; omega
      · have HS1 : Hid ((rl j).set (8 + j) (ruleL.getD (8 + j) 0) = rl (j + 1)) := rl_high j hlt (by omega)
        generalize (prT 312).getD j 0 = p at hix hp HK
        have H2 : Hid (∀ W, Calls Try.prog 49 #[.int .u64 ((p : Int) * 4294967296), .func (.func 51) #[] #[]] W fun e w' => e = .returned (.int .u32 (ruleL.getD (8 + j) 0 : Nat)) ∧ w' = W) := hide (fun W => by
          have h := root_cube W (p * 4294967296) (by omega)
          rw [HK.out, Int.natCast_mul] at h
          exact h)
        go_wp2_with fail
        refine (H2.out _).mono ?_
        rintro e w2 ⟨rfl, rfl⟩
        go_wp2
        go_roundw
        case rel => exact ⟨j + 1, by omega, by go_num, hide ⟨HR.out.1.setNe (by omega) _ _, by rw [← HS1.out]; exact HR.out.2.1.set (8 + j) _ _ rfl, HR.out.2.2.setCell (by simp) _⟩⟩
        case measure => simp [intOf]; omega
    · obtain rfl : j = 64 := by omega
      rw [rl_all] at HR
      have HA0 := hide HR.out.1
      have HA1 := hide HR.out.2.1
      have HB := hide HR.out.2.2
      clear HR
      go_wp2_with (first | (refine wpList_load_row rfl _ _ rfl (w.heap.size + 1) rfl 57 _ (0, 0) _ HA1.out Try.underlying57 rfl (by rw [vsize]; exact size57) ?_) | (refine wpList_store_row rfl _ _ _ rfl w.heap.size _ rfl rfl 57 _ HA0.out (by rw [vsize]; exact size57) (by rw [vsize, vsize]; rfl) (vals_all _ _) ?_))
      have HX := hide (HA0.out.setRow ruleL)
      have HY := hide (below_setRow HB.out (Nat.le_refl _) (vals .u32 ruleL).toArray)
      exact bodyPost_ret (results_cell_row rfl _ _ w.heap.size 57 _ (0, 0) _ rfl HX.out Try.underlying57 rfl (by rw [vsize]; exact size57)) rfl ⟨rfl, HY.out⟩
end Go.Proofs.Ytkkildgdeagpeah.rule
