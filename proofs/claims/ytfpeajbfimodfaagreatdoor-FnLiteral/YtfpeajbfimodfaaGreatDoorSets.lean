/- Places of a text: joined, the last one, the first one. -/
import Derived.Test.YtfpeajbfimodfaaGreatDoorPlaces
import Derived.BigRegion
namespace Go.Proofs.YtfpeajbfimodfaaGreatDoor.sets
open Go.ChangeShapes Go.WideShapes Go.ChangeAt Go.RowKit
open Go.Proofs.YtfpeajbfimodfaaGreatDoor.bytes Go.Proofs.YtfpeajbfimodfaaGreatDoor.places
set_option linter.unusedVariables false

theorem u64_or (a b : Nat) (ha : a < 18446744073709551616) (hb : b < 18446744073709551616) : bits .or .u64 (a : Int) (b : Int) = ((a ||| b : Nat) : Int) := by
  have hlt : a ||| b < 18446744073709551616 := Nat.or_lt_two_pow (n := 64) ha hb
  have h1 : (BitVec.ofInt 64 (a : Int)).toNat = a := by rw [BitVec.toNat_ofInt]; omega
  have h2 : (BitVec.ofInt 64 (b : Int)).toNat = b := by rw [BitVec.toNat_ofInt]; omega
  have key : (BitVec.ofInt 64 (a : Int) ||| BitVec.ofInt 64 (b : Int)).toNat = a ||| b := by rw [BitVec.toNat_or, h1, h2]
  show IntKind.u64.wrap ((BitVec.ofInt 64 (a : Int) ||| BitVec.ofInt 64 (b : Int)).toNat : Nat) = _
  rw [key, IntKind.wrap_u64]
  omega
def C2 (w : World) (g : Nat) (a : Nat) : Prop := w.heap[g]? = some (.cells #[.int .u64 (a : Nat), .int .u64 0] 87 (0, 0))
theorem C2.c0 {w : World} {g a : Nat} (h : C2 w g a) : w.cell? ⟨g, 0, none⟩ = some (.int .u64 (a : Nat)) := by unfold C2 at h; simp [World.cell?, h]
theorem C2.c1 {w : World} {g a : Nat} (h : C2 w g a) : w.cell? ⟨g, 1, none⟩ = some (.int .u64 0) := by unfold C2 at h; simp [World.cell?, h]
theorem C2.fz {w : World} {g a : Nat} (h : C2 w g a) (i : Nat) : w.frozen? ⟨g, i, none⟩ = false := by unfold C2 at h; simp [World.frozen?, h]
theorem C2.set0 {w : World} {g a : Nat} (h : C2 w g a) (b : Nat) : C2 (w.setCell ⟨g, 0, none⟩ (.int .u64 (b : Nat))).drew g b := by
  have h1 := heap_setCell_same w g 0 _ 87 (.int .u64 (b : Nat)) h
  simp at h1
  exact h1
theorem C2.set1 {w : World} {g a : Nat} (h : C2 w g a) : C2 (w.setCell ⟨g, 1, none⟩ (.int .u64 0)).drew g a := by
  have h1 := heap_setCell_same w g 1 _ 87 (.int .u64 0) h
  simp at h1
  exact h1
theorem C2.ne {w : World} {g a k i : Nat} (h : C2 w g a) (hk : g ≠ k) (u : Value) : C2 (w.setCell ⟨k, i, none⟩ u).drew g a := by
  unfold C2 at h ⊢
  exact (heap_setCell_other w ⟨k, i, none⟩ g u hk).trans h
set_option maxHeartbeats 4000000 in
theorem with_any (w : World) (a b : Nat) (ha : a < 18446744073709551616) (hb : b < 18446744073709551616) :
    Calls Tryz.prog 64 #[psV a, psV b] w fun r w' => r = .returned (psV (a ||| b)) ∧ Below w.heap.size w w' := by
  unfold psV
  have hor := u64_or a b ha hb
  have hor0 : bits .or .u64 0 0 = 0 := by decide
  generalize a ||| b = c at hor ⊢
  obtain ⟨W3, hW3⟩ : ∃ W3, W3 = ((w.alloc (.cells #[.int .u64 (a : Nat), .int .u64 0] 87)).alloc (.cells #[.int .u64 (b : Nat), .int .u64 0] 87)).alloc (.cells #[.int .u64 0, .int .u64 0] 87) := ⟨_, rfl⟩
  have HS : Hid (C2 W3 w.heap.size a ∧ C2 W3 (w.heap.size + 1) b ∧ C2 W3 (w.heap.size + 2) 0 ∧ Below w.heap.size w W3) := by
    rw [hW3]
    refine hide ⟨?_, ?_, ?_, (((Below.refl _ _).alloc (Nat.le_refl _) _).alloc (by simp) _).alloc (by simp; omega) _⟩
    · unfold C2
      rw [Below.heap_alloc _ _ _ (by simp; omega), Below.heap_alloc _ _ _ (by simp)]
      exact heap_alloc_new w _
    · unfold C2
      rw [Below.heap_alloc _ _ _ (by simp)]
      have h := heap_alloc_new (w.alloc (.cells #[.int .u64 (a : Nat), .int .u64 0] 87)) (.cells #[.int .u64 (b : Nat), .int .u64 0] 87)
      rw [show (w.alloc (.cells #[.int .u64 (a : Nat), .int .u64 0] 87)).heap.size = w.heap.size + 1 by simp] at h
      exact h
    · have h := heap_alloc_new ((w.alloc (.cells #[.int .u64 (a : Nat), .int .u64 0] 87)).alloc (.cells #[.int .u64 (b : Nat), .int .u64 0] 87)) (.cells #[.int .u64 0, .int .u64 0] 87)
      rw [show ((w.alloc (.cells #[.int .u64 (a : Nat), .int .u64 0] 87)).alloc (.cells #[.int .u64 (b : Nat), .int .u64 0] 87)).heap.size = w.heap.size + 2 by simp] at h
      exact h
  go_enter Tryz.func64, Tryz.ntmps64
  go_wp2
  rw [← hW3]
  clear hW3
  go_loopw [5, 6] (fun k5 iv wr => ∃ i x : Nat, ((i = 0 ∧ x = a) ∨ (i = 1 ∧ x = c) ∨ (i = 2 ∧ x = c)) ∧ iv = .int .i64 i ∧ Hid (C2 wr w.heap.size x ∧ C2 wr (w.heap.size + 1) b ∧ C2 wr (w.heap.size + 2) 0 ∧ Below w.heap.size w wr)) (fun _ iv _ => 2 - (intOf iv).toNat)
  case atStart => exact ⟨0, a, .inl ⟨rfl, rfl⟩, rfl, HS⟩
  case round =>
    obtain ⟨i, x, hix, rfl, HX⟩ := hrel
    clear HS
    rcases hix with ⟨rfl, rfl⟩ | ⟨rfl, rfl⟩ | ⟨rfl, rfl⟩
    · have p0 := HX.out.1.c0
      have q0 := HX.out.1.fz 0
      have m0 := HX.out.2.1.c0
      go_wp2
      go_region
      go_wp2
      go_roundw
      case rel => exact ⟨0 + 1, c, .inr (.inl ⟨rfl, rfl⟩), by go_num, hide ⟨HX.out.1.set0 c, HX.out.2.1.ne (by omega) _, HX.out.2.2.1.ne (by omega) _, (HX.out.2.2.2.setCell (p := ⟨w.heap.size, 0, none⟩) (Nat.le_refl _) _).drew⟩⟩
      case measure => simp [intOf]
    · have p1 := HX.out.1.c1
      have q1 := HX.out.1.fz 1
      have m1 := HX.out.2.1.c1
      go_wp2
      go_region
      go_wp2
      go_roundw
      case rel => exact ⟨1 + 1, _, .inr (.inr ⟨rfl, rfl⟩), by go_num, hide ⟨HX.out.1.set1, HX.out.2.1.ne (by omega) _, HX.out.2.2.1.ne (by omega) _, (HX.out.2.2.2.setCell (p := ⟨w.heap.size, 1, none⟩) (Nat.le_refl _) _).drew⟩⟩
      case measure => simp [intOf]
    · have p0 := HX.out.1.c0
      have p1 := HX.out.1.c1
      have r0 := HX.out.2.2.1.c0
      have r1 := HX.out.2.2.1.c1
      have s0 := HX.out.2.2.1.fz 0
      have s1 := HX.out.2.2.1.fz 1
      have HE : Hid (((wr.setCell ⟨w.heap.size + 1 + 1, 0, none⟩ (.int .u64 (x : Nat))).setCell ⟨w.heap.size + 1 + 1, 1, none⟩ (.int .u64 0)).heap[w.heap.size + 1 + 1]? = some (.cells #[.int .u64 (x : Nat), .int .u64 0] 87 (0, 0)) ∧ Below w.heap.size w ((wr.setCell ⟨w.heap.size + 1 + 1, 0, none⟩ (.int .u64 (x : Nat))).setCell ⟨w.heap.size + 1 + 1, 1, none⟩ (.int .u64 0))) := by
        have h0 := heap_setCell_same wr (w.heap.size + 1 + 1) 0 _ 87 (.int .u64 (x : Nat)) HX.out.2.2.1
        have h1 := heap_setCell_same _ (w.heap.size + 1 + 1) 1 _ 87 (.int .u64 0) h0
        simp at h1
        exact hide ⟨h1, (HX.out.2.2.2.setCell (p := ⟨w.heap.size + 1 + 1, 0, none⟩) (by simp; omega) _).setCell (p := ⟨w.heap.size + 1 + 1, 1, none⟩) (by simp; omega) _⟩
      go_wp2
      exact bodyPost_ret (results_cell_row rfl _ _ (w.heap.size + 1 + 1) 87 _ (0, 0) _ rfl HE.out.1 Tryz.underlying87 rfl (size87.trans (by simp))) rfl ⟨rfl, HE.out.2⟩

set_option maxRecDepth 100000 in
set_option maxHeartbeats 4000000 in
theorem len_any (w : World) (e : Nat) (he : e ≤ 22) :
    Calls Tryz.prog 45 #[.int .u64 ((2 ^ e : Nat) : Int)] w fun r w' => r = .returned (.int .i64 ((e : Int) + 1)) ∧ w' = w := by
  rcases (show e = 0 ∨ e = 1 ∨ e = 2 ∨ e = 3 ∨ e = 4 ∨ e = 5 ∨ e = 6 ∨ e = 7 ∨ e = 8 ∨ e = 9 ∨ e = 10 ∨ e = 11 ∨ e = 12 ∨ e = 13 ∨ e = 14 ∨ e = 15 ∨ e = 16 ∨ e = 17 ∨ e = 18 ∨ e = 19 ∨ e = 20 ∨ e = 21 ∨ e = 22 by omega) with rfl | rfl | rfl | rfl | rfl | rfl | rfl | rfl | rfl | rfl | rfl | rfl | rfl | rfl | rfl | rfl | rfl | rfl | rfl | rfl | rfl | rfl | rfl
  · rw [show ((2 ^ 0 : Nat) : Int) = 1 by decide]
    go_enter Tryz.func45, Tryz.ntmps45
    go_wp2
    go_ret
    refine ⟨?_, rfl⟩
    kernel_rfl
  · rw [show ((2 ^ 1 : Nat) : Int) = 2 by decide]
    go_enter Tryz.func45, Tryz.ntmps45
    go_wp2
    go_ret
    refine ⟨?_, rfl⟩
    kernel_rfl
  · rw [show ((2 ^ 2 : Nat) : Int) = 4 by decide]
    go_enter Tryz.func45, Tryz.ntmps45
    go_wp2
    go_ret
    refine ⟨?_, rfl⟩
    kernel_rfl
  · rw [show ((2 ^ 3 : Nat) : Int) = 8 by decide]
    go_enter Tryz.func45, Tryz.ntmps45
    go_wp2
    go_ret
    refine ⟨?_, rfl⟩
    kernel_rfl
  · rw [show ((2 ^ 4 : Nat) : Int) = 16 by decide]
    go_enter Tryz.func45, Tryz.ntmps45
    go_wp2
    go_ret
    refine ⟨?_, rfl⟩
    kernel_rfl
  · rw [show ((2 ^ 5 : Nat) : Int) = 32 by decide]
    go_enter Tryz.func45, Tryz.ntmps45
    go_wp2
    go_ret
    refine ⟨?_, rfl⟩
    kernel_rfl
  · rw [show ((2 ^ 6 : Nat) : Int) = 64 by decide]
    go_enter Tryz.func45, Tryz.ntmps45
    go_wp2
    go_ret
    refine ⟨?_, rfl⟩
    kernel_rfl
  · rw [show ((2 ^ 7 : Nat) : Int) = 128 by decide]
    go_enter Tryz.func45, Tryz.ntmps45
    go_wp2
    go_ret
    refine ⟨?_, rfl⟩
    kernel_rfl
  · rw [show ((2 ^ 8 : Nat) : Int) = 256 by decide]
    go_enter Tryz.func45, Tryz.ntmps45
    go_wp2
    go_ret
    refine ⟨?_, rfl⟩
    kernel_rfl
  · rw [show ((2 ^ 9 : Nat) : Int) = 512 by decide]
    go_enter Tryz.func45, Tryz.ntmps45
    go_wp2
    go_ret
    refine ⟨?_, rfl⟩
    kernel_rfl
  · rw [show ((2 ^ 10 : Nat) : Int) = 1024 by decide]
    go_enter Tryz.func45, Tryz.ntmps45
    go_wp2
    go_ret
    refine ⟨?_, rfl⟩
    kernel_rfl
  · rw [show ((2 ^ 11 : Nat) : Int) = 2048 by decide]
    go_enter Tryz.func45, Tryz.ntmps45
    go_wp2
    go_ret
    refine ⟨?_, rfl⟩
    kernel_rfl
  · rw [show ((2 ^ 12 : Nat) : Int) = 4096 by decide]
    go_enter Tryz.func45, Tryz.ntmps45
    go_wp2
    go_ret
    refine ⟨?_, rfl⟩
    kernel_rfl
  · rw [show ((2 ^ 13 : Nat) : Int) = 8192 by decide]
    go_enter Tryz.func45, Tryz.ntmps45
    go_wp2
    go_ret
    refine ⟨?_, rfl⟩
    kernel_rfl
  · rw [show ((2 ^ 14 : Nat) : Int) = 16384 by decide]
    go_enter Tryz.func45, Tryz.ntmps45
    go_wp2
    go_ret
    refine ⟨?_, rfl⟩
    kernel_rfl
  · rw [show ((2 ^ 15 : Nat) : Int) = 32768 by decide]
    go_enter Tryz.func45, Tryz.ntmps45
    go_wp2
    go_ret
    refine ⟨?_, rfl⟩
    kernel_rfl
  · rw [show ((2 ^ 16 : Nat) : Int) = 65536 by decide]
    go_enter Tryz.func45, Tryz.ntmps45
    go_wp2
    go_ret
    refine ⟨?_, rfl⟩
    kernel_rfl
  · rw [show ((2 ^ 17 : Nat) : Int) = 131072 by decide]
    go_enter Tryz.func45, Tryz.ntmps45
    go_wp2
    go_ret
    refine ⟨?_, rfl⟩
    kernel_rfl
  · rw [show ((2 ^ 18 : Nat) : Int) = 262144 by decide]
    go_enter Tryz.func45, Tryz.ntmps45
    go_wp2
    go_ret
    refine ⟨?_, rfl⟩
    kernel_rfl
  · rw [show ((2 ^ 19 : Nat) : Int) = 524288 by decide]
    go_enter Tryz.func45, Tryz.ntmps45
    go_wp2
    go_ret
    refine ⟨?_, rfl⟩
    kernel_rfl
  · rw [show ((2 ^ 20 : Nat) : Int) = 1048576 by decide]
    go_enter Tryz.func45, Tryz.ntmps45
    go_wp2
    go_ret
    refine ⟨?_, rfl⟩
    kernel_rfl
  · rw [show ((2 ^ 21 : Nat) : Int) = 2097152 by decide]
    go_enter Tryz.func45, Tryz.ntmps45
    go_wp2
    go_ret
    refine ⟨?_, rfl⟩
    kernel_rfl
  · rw [show ((2 ^ 22 : Nat) : Int) = 4194304 by decide]
    go_enter Tryz.func45, Tryz.ntmps45
    go_wp2
    go_ret
    refine ⟨?_, rfl⟩
    kernel_rfl
end Go.Proofs.YtfpeajbfimodfaaGreatDoor.sets
