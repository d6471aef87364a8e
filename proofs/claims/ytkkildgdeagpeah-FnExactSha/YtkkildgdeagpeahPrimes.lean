/- The first 64 primes, as the program finds them. -/
import Derived.Test.YtkkildgdeagpeahArr
namespace Go.Proofs.Ytkkildgdeagpeah.primes
open Go.ChangeShapes Go.WideShapes Go.ChangeAt Go.RowKit
open Go.Proofs.Ytkkildgdeagpeah.bytes Go.Proofs.Ytkkildgdeagpeah.rot Go.Proofs.Ytkkildgdeagpeah.root Go.Proofs.Ytkkildgdeagpeah.arr
set_option linter.unusedVariables false

/-- The primes below a number. -/
def prT : Nat → List Nat
  | 0 => []
  | n + 1 => if n < 2 then prT n else if (prT n).any (fun p => n % p == 0) then prT n else prT n ++ [n]
theorem prT_mem {n p : Nat} (h : p ∈ prT n) : 2 ≤ p ∧ p < n := by
  induction n with
  | zero => simp [prT] at h
  | succ n ih =>
    unfold prT at h
    split at h
    · have := ih h; omega
    · split at h
      · have := ih h; omega
      · rw [List.mem_append] at h
        rcases h with h | h
        · have := ih h; omega
        · simp at h; omega
theorem prT_mono (n : Nat) : (prT n).length ≤ (prT (n + 1)).length := by
  rw [prT]
  split
  · omega
  · split
    · omega
    · rw [List.length_append]; omega
theorem prT_le {m n : Nat} (h : m ≤ n) : (prT m).length ≤ (prT n).length := by
  induction n with
  | zero => have : m = 0 := by omega
            subst this; omega
  | succ n ih =>
    by_cases e : m = n + 1
    · subst e; omega
    · exact Nat.le_trans (ih (by omega)) (prT_mono n)
theorem prT_312 : prT 312 = [2, 3, 5, 7, 11, 13, 17, 19, 23, 29, 31, 37, 41, 43, 47, 53, 59, 61, 67, 71, 73, 79, 83, 89, 97, 101, 103, 107, 109, 113, 127, 131, 137, 139, 149, 151, 157, 163, 167, 173, 179, 181, 191, 193, 197, 199, 211, 223, 227, 229, 233, 239, 241, 251, 257, 263, 269, 271, 277, 281, 283, 293, 307, 311] := by decide +kernel
theorem prT_311 : (prT 311).length = 63 := by decide +kernel
theorem prT_len : (prT 312).length = 64 := by rw [prT_312]; rfl

theorem size83 : (Try.prog.info? 83).map (·.size) = some 64 := by kernel_rfl
theorem slice83 (W : World) (b l : Nat) (h : l ≤ 64) : (Instr.sliceAt 83 (.pointer (some ⟨b, 0, none⟩)) none (some (.int .i64 (l : Nat))) none).run Try.prog W = .ok (.slice (some ⟨b, 0, none⟩) l 64) W := by
  have ha : Try.prog.arrayLen 83 = 64 := by kernel_rfl
  have hu : Try.prog.underlying 83 = some (.array (Try.prog.arrayLen 83) (Try.prog.elem 83)) := by kernel_rfl
  have hs : (sizeOf (Try.prog.elem 83)).run Try.prog W = .ok 1 W := by kernel_rfl
  rw [run_sliceAt_array_h W 83 ⟨b, 0, none⟩ hu .i64 l (by omega) (by rw [ha]; omega), hs, ha]
  simp [slicedAt, Addr.add]
theorem vsize (k : IntKind) (xs : List Nat) : (vals k xs).toArray.size = xs.length := by simp [vals]
theorem set_behind (l : List Nat) (n r : Nat) : (l ++ List.replicate (r + 1) 0).set l.length n = (l ++ [n]) ++ List.replicate r 0 := by
  rw [List.set_append_right _ _ (Nat.le_refl _), Nat.sub_self, List.replicate_succ]
  simp
theorem getD_front (l : List Nat) (r i : Nat) (h : i < l.length) : (l ++ List.replicate r 0).getD i 0 = l.getD i 0 := by
  rw [List.getD_eq_getElem?_getD, List.getD_eq_getElem?_getD, List.getElem?_append_left h]
set_option maxRecDepth 20000 in
set_option maxHeartbeats 4000000 in
theorem firstPrimes_any (w : World) :
    Calls Try.prog 48 #[] w fun e w' => e = .returned (.agg (vals .u64 (prT 312)).toArray) ∧ Below w.heap.size w w' := by
  obtain ⟨W2, hW2⟩ : ∃ W2, W2 = (w.alloc (.cells #[.int .u64 0, .int .u64 0, .int .u64 0, .int .u64 0, .int .u64 0, .int .u64 0, .int .u64 0, .int .u64 0, .int .u64 0, .int .u64 0, .int .u64 0, .int .u64 0, .int .u64 0, .int .u64 0, .int .u64 0, .int .u64 0, .int .u64 0, .int .u64 0, .int .u64 0, .int .u64 0, .int .u64 0, .int .u64 0, .int .u64 0, .int .u64 0, .int .u64 0, .int .u64 0, .int .u64 0, .int .u64 0, .int .u64 0, .int .u64 0, .int .u64 0, .int .u64 0, .int .u64 0, .int .u64 0, .int .u64 0, .int .u64 0, .int .u64 0, .int .u64 0, .int .u64 0, .int .u64 0, .int .u64 0, .int .u64 0, .int .u64 0, .int .u64 0, .int .u64 0, .int .u64 0, .int .u64 0, .int .u64 0, .int .u64 0, .int .u64 0, .int .u64 0, .int .u64 0, .int .u64 0, .int .u64 0, .int .u64 0, .int .u64 0, .int .u64 0, .int .u64 0, .int .u64 0, .int .u64 0, .int .u64 0, .int .u64 0, .int .u64 0, .int .u64 0] 83)).alloc (.cells #[.int .u64 0, .int .u64 0, .int .u64 0, .int .u64 0, .int .u64 0, .int .u64 0, .int .u64 0, .int .u64 0, .int .u64 0, .int .u64 0, .int .u64 0, .int .u64 0, .int .u64 0, .int .u64 0, .int .u64 0, .int .u64 0, .int .u64 0, .int .u64 0, .int .u64 0, .int .u64 0, .int .u64 0, .int .u64 0, .int .u64 0, .int .u64 0, .int .u64 0, .int .u64 0, .int .u64 0, .int .u64 0, .int .u64 0, .int .u64 0, .int .u64 0, .int .u64 0, .int .u64 0, .int .u64 0, .int .u64 0, .int .u64 0, .int .u64 0, .int .u64 0, .int .u64 0, .int .u64 0, .int .u64 0, .int .u64 0, .int .u64 0, .int .u64 0, .int .u64 0, .int .u64 0, .int .u64 0, .int .u64 0, .int .u64 0, .int .u64 0, .int .u64 0, .int .u64 0, .int .u64 0, .int .u64 0, .int .u64 0, .int .u64 0, .int .u64 0, .int .u64 0, .int .u64 0, .int .u64 0, .int .u64 0, .int .u64 0, .int .u64 0, .int .u64 0] 83) := ⟨_, rfl⟩
  have HS : Hid (Arr W2 w.heap.size 83 .u64 (List.replicate 64 0) ∧ Arr W2 (w.heap.size + 1) 83 .u64 (List.replicate 64 0) ∧ Below w.heap.size w W2) := by
    refine hide ⟨?_, ?_, ?_⟩
    · rw [hW2]; exact (Arr.new w 83 .u64 (List.replicate 64 0) #[.int .u64 0, .int .u64 0, .int .u64 0, .int .u64 0, .int .u64 0, .int .u64 0, .int .u64 0, .int .u64 0, .int .u64 0, .int .u64 0, .int .u64 0, .int .u64 0, .int .u64 0, .int .u64 0, .int .u64 0, .int .u64 0, .int .u64 0, .int .u64 0, .int .u64 0, .int .u64 0, .int .u64 0, .int .u64 0, .int .u64 0, .int .u64 0, .int .u64 0, .int .u64 0, .int .u64 0, .int .u64 0, .int .u64 0, .int .u64 0, .int .u64 0, .int .u64 0, .int .u64 0, .int .u64 0, .int .u64 0, .int .u64 0, .int .u64 0, .int .u64 0, .int .u64 0, .int .u64 0, .int .u64 0, .int .u64 0, .int .u64 0, .int .u64 0, .int .u64 0, .int .u64 0, .int .u64 0, .int .u64 0, .int .u64 0, .int .u64 0, .int .u64 0, .int .u64 0, .int .u64 0, .int .u64 0, .int .u64 0, .int .u64 0, .int .u64 0, .int .u64 0, .int .u64 0, .int .u64 0, .int .u64 0, .int .u64 0, .int .u64 0, .int .u64 0] rfl).alloc _
    · rw [hW2]
      have h := Arr.new (w.alloc (.cells #[.int .u64 0, .int .u64 0, .int .u64 0, .int .u64 0, .int .u64 0, .int .u64 0, .int .u64 0, .int .u64 0, .int .u64 0, .int .u64 0, .int .u64 0, .int .u64 0, .int .u64 0, .int .u64 0, .int .u64 0, .int .u64 0, .int .u64 0, .int .u64 0, .int .u64 0, .int .u64 0, .int .u64 0, .int .u64 0, .int .u64 0, .int .u64 0, .int .u64 0, .int .u64 0, .int .u64 0, .int .u64 0, .int .u64 0, .int .u64 0, .int .u64 0, .int .u64 0, .int .u64 0, .int .u64 0, .int .u64 0, .int .u64 0, .int .u64 0, .int .u64 0, .int .u64 0, .int .u64 0, .int .u64 0, .int .u64 0, .int .u64 0, .int .u64 0, .int .u64 0, .int .u64 0, .int .u64 0, .int .u64 0, .int .u64 0, .int .u64 0, .int .u64 0, .int .u64 0, .int .u64 0, .int .u64 0, .int .u64 0, .int .u64 0, .int .u64 0, .int .u64 0, .int .u64 0, .int .u64 0, .int .u64 0, .int .u64 0, .int .u64 0, .int .u64 0] 83)) 83 .u64 (List.replicate 64 0) #[.int .u64 0, .int .u64 0, .int .u64 0, .int .u64 0, .int .u64 0, .int .u64 0, .int .u64 0, .int .u64 0, .int .u64 0, .int .u64 0, .int .u64 0, .int .u64 0, .int .u64 0, .int .u64 0, .int .u64 0, .int .u64 0, .int .u64 0, .int .u64 0, .int .u64 0, .int .u64 0, .int .u64 0, .int .u64 0, .int .u64 0, .int .u64 0, .int .u64 0, .int .u64 0, .int .u64 0, .int .u64 0, .int .u64 0, .int .u64 0, .int .u64 0, .int .u64 0, .int .u64 0, .int .u64 0, .int .u64 0, .int .u64 0, .int .u64 0, .int .u64 0, .int .u64 0, .int .u64 0, .int .u64 0, .int .u64 0, .int .u64 0, .int .u64 0, .int .u64 0, .int .u64 0, .int .u64 0, .int .u64 0, .int .u64 0, .int .u64 0, .int .u64 0, .int .u64 0, .int .u64 0, .int .u64 0, .int .u64 0, .int .u64 0, .int .u64 0, .int .u64 0, .int .u64 0, .int .u64 0, .int .u64 0, .int .u64 0, .int .u64 0, .int .u64 0] rfl
      simpa using h
    · rw [hW2]; exact ((Below.refl _ _).alloc (Nat.le_refl _) _).alloc (by simp) _
  go_enter Try.func48, Try.ntmps48
  go_wp2
  rw [← hW2]
  clear hW2
  go_loopw [2, 3] (fun f n wr => ∃ N l : Nat, f = .int .i64 l ∧ n = .int .u64 (N : Nat) ∧ 2 ≤ N ∧ N ≤ 312 ∧ Hid (l = (prT N).length) ∧ Hid (Arr wr w.heap.size 83 .u64 (List.replicate 64 0) ∧ Arr wr (w.heap.size + 1) 83 .u64 (prT N ++ List.replicate (64 - (prT N).length) 0) ∧ Below w.heap.size w wr)) (fun _ n _ => 312 - (intOf n).toNat)
  case atStart => exact ⟨2, 0, rfl, rfl, by omega, by omega, hide rfl, HS⟩
  case round =>
    obtain ⟨N, l, rfl, rfl, h2, h312, HLn, HR⟩ := hrel
    clear HS
    by_cases hlen : l < 64
    · have hN : N < 312 := by
        rcases Nat.lt_or_ge N 312 with h | h
        · exact h
        · have : N = 312 := by omega
          subst this
          have h1 := HLn.out
          rw [prT_len] at h1
          omega
      have hl64 : (prT N).length < 64 := by rw [← HLn.out]; exact hlen
      have hcell : ∀ i, i < (prT N).length → wr.cell? ⟨w.heap.size + 1, i, none⟩ = some (.int .u64 ((prT N).getD i 0 : Nat)) := fun i hi => by
        rw [HR.out.2.1.cell (by rw [List.length_append, List.length_replicate]; omega), getD_front _ _ _ hi]
      have ct := HR.out.2.1.cell (i := l) (by rw [List.length_append, List.length_replicate]; omega)
      have cf := HR.out.2.1.frozen l
      have HD := hide (hasDivisor_any wr N (by omega) (w.heap.size + 1) 64 (prT N) (by omega) (fun p hp => by have := prT_mem hp; omega) hcell)
      rw [← HLn.out] at HD
      have HP : Hid (prT (N + 1) = if (prT N).any (fun p => N % p == 0) then prT N else prT N ++ [N]) := by
        unfold Hid
        rw [prT, if_neg (by omega)]
      clear hcell
      have HL : Hid (∀ u : Value, u = .int .u64 (N : Nat) → Arr (wr.setCell ⟨w.heap.size + 1, l, none⟩ u) (w.heap.size + 1) 83 .u64 ((prT N ++ [N]) ++ List.replicate (63 - (prT N).length) 0)) := hide (fun u hu => by
        rw [HLn.out]
        have h := HR.out.2.1.set (prT N).length N u hu
        rw [show 64 - (prT N).length = (63 - (prT N).length) + 1 by omega, set_behind] at h
        exact h)
      generalize ((prT N ++ List.replicate (64 - (prT N).length) 0).getD l 0) = x0 at ct
      clear hl64
      have hsl := slice83 wr (w.heap.size + 1) l (by omega)
      generalize (prT N).any (fun p => N % p == 0) = bb at HD HP
      go_wp2_with fail
      refine HD.out.mono ?_
      rintro e w' ⟨rfl, rfl⟩
      cases bb with
      | true =>
        go_wp2
        go_roundw
        case rel => exact ⟨N + 1, l, rfl, rfl, by omega, by omega, hide (by rw [HP.out]; exact HLn.out), hide (by rw [HP.out]; exact HR.out)⟩
        case measure => simp [intOf]; omega
      | false =>
        go_wp2
        go_roundw
        case rel =>
          refine ⟨N + 1, l + 1, rfl, rfl, by omega, by omega, hide ?_, hide ⟨HR.out.1.setNe (by omega) _ _, ?_, HR.out.2.2.setCell (by simp) _⟩⟩
          · rw [HP.out, HLn.out]
            simp
          · have h := HL.out _ rfl
            rw [HP.out]
            have e1 : 64 - (if false = true then prT N else prT N ++ [N]).length = 63 - (prT N).length := by simp
            rw [e1]
            exact h
        case measure => simp [intOf]; omega
    · have hN : N = 312 := by
        rcases Nat.lt_or_ge N 312 with h | h
        · have h1 := prT_le (show N ≤ 311 by omega)
          rw [prT_311] at h1
          have h3 := HLn.out
          omega
        · omega
      subst hN
      have hl64 : l = 64 := HLn.out.trans prT_len
      subst hl64
      have HA0 := hide HR.out.1
      have HA1 : Hid (Arr wr (w.heap.size + 1) 83 .u64 (prT 312)) := by
        have h := HR.out.2.1
        rw [prT_len, Nat.sub_self, List.replicate_zero, List.append_nil] at h
        exact hide h
      have HB := hide HR.out.2.2
      clear HR
      go_wp2_with (first | (refine wpList_load_row rfl _ _ rfl (w.heap.size + 1) rfl 83 _ (0, 0) _ HA1.out Try.underlying83 rfl (by rw [vsize, prT_len]; exact size83) ?_) | (refine wpList_store_row rfl _ _ _ rfl w.heap.size _ rfl rfl 83 _ HA0.out (by rw [vsize, prT_len]; exact size83) (by rw [vsize, vsize, prT_len]; rfl) (vals_all _ _) ?_))
      have HX := hide (HA0.out.setRow (prT 312))
      have HY := hide (below_setRow HB.out (Nat.le_refl _) (vals .u64 (prT 312)).toArray)
      exact bodyPost_ret (results_cell_row rfl _ _ w.heap.size 83 _ (0, 0) _ rfl HX.out Try.underlying83 rfl (by rw [vsize, prT_len]; exact size83)) rfl ⟨rfl, HY.out⟩

end Go.Proofs.Ytkkildgdeagpeah.primes
