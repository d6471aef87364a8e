/- What a right command is: addresses. -/
import Derived.Test.YtdhachmelgdknaaGreatDoorPse
namespace Go.Proofs.YtdhachmelgdknaaGreatDoor.chk
open Go.ChangeShapes Go.WideShapes Go.ChangeAt Go.RowKit
open Go.Proofs.YtdhachmelgdknaaGreatDoor.bas Go.Proofs.YtdhachmelgdknaaGreatDoor.rdr
set_option linter.unusedVariables false
theorem mt_empty : (⟨#[]⟩ : ByteArray).toList.isEmpty = true := by rw [ByteArray.toList_eq]; rfl
set_option maxHeartbeats 800000 in
theorem noTree_any (w : World) : Calls Tryz.prog 55 #[.agg #[.int .i64 0, .int .i64 0, .int .i64 0, .string ⟨#[]⟩, .slice none 0 0]] w fun e w' => e = .returned (.bool true) ∧ Below w.heap.size w w' := by
  obtain ⟨W0, hW0⟩ : ∃ W0, w.alloc (.cells #[.int .i64 0, .int .i64 0, .int .i64 0, .string ⟨#[]⟩, .slice none 0 0] 56) = W0 := ⟨_, rfl⟩
  have b0 : Below w.heap.size w W0 := by rw [← hW0]; exact more (Below.refl _ _) _
  have x0 : W0.heap[w.heap.size]? = some (.cells #[.int .i64 0, .int .i64 0, .int .i64 0, .string ⟨#[]⟩, .slice none 0 0] 56 (0, 0)) := by rw [← hW0]; exact heap_alloc_new w _
  have c0 : W0.cell? ⟨w.heap.size, 0, none⟩ = some (.int .i64 0) := cell_of x0 rfl
  have c1 : W0.cell? ⟨w.heap.size, 1, none⟩ = some (.int .i64 0) := cell_of x0 rfl
  have c2 : W0.cell? ⟨w.heap.size, 2, none⟩ = some (.int .i64 0) := cell_of x0 rfl
  have c3 : W0.cell? ⟨w.heap.size, 3, none⟩ = some (.string ⟨#[]⟩) := cell_of x0 rfl
  have c4 : W0.cell? ⟨w.heap.size, 4, none⟩ = some (.slice none 0 0) := cell_of x0 rfl
  have HB := hide b0
  have hmt := mt_empty
  clear b0 x0
  go_enter Tryz.func55, Tryz.ntmps55
  go_wp2
  go_ret
  exact ⟨rfl, HB.out⟩
def AdrOK (ak an : Int) : Prop := (ak = 0 ∧ an = 0) ∨ (ak = 2 ∧ an = 0) ∨ (ak = 1 ∧ 1 ≤ an ∧ an ≤ 999999999)
set_option maxHeartbeats 1600000 in
theorem addressOK_any (w : World) (ak an : Int) (h : AdrOK ak an) : Calls Tryz.prog 91 #[.agg #[.int .i64 ak, .int .i64 an, .int .i64 0, .int .i64 0, .int .i64 0, .string ⟨#[]⟩, .slice none 0 0]] w fun e w' => e = .returned (.bool true) ∧ Below w.heap.size w w' := by
  obtain ⟨W0, hW0⟩ : ∃ W0, w.alloc (.cells #[.int .i64 ak, .int .i64 an, .int .i64 0, .int .i64 0, .int .i64 0, .string ⟨#[]⟩, .slice none 0 0] 58) = W0 := ⟨_, rfl⟩
  have b0 : Below w.heap.size w W0 := by rw [← hW0]; exact more (Below.refl _ _) _
  have x0 : W0.heap[w.heap.size]? = some (.cells #[.int .i64 ak, .int .i64 an, .int .i64 0, .int .i64 0, .int .i64 0, .string ⟨#[]⟩, .slice none 0 0] 58 (0, 0)) := by rw [← hW0]; exact heap_alloc_new w _
  have c0 : W0.cell? ⟨w.heap.size, 0, none⟩ = some (.int .i64 ak) := cell_of x0 rfl
  have c1 : W0.cell? ⟨w.heap.size, 1, none⟩ = some (.int .i64 an) := cell_of x0 rfl
  have c2 : W0.cell? ⟨w.heap.size, 2, none⟩ = some (.int .i64 0) := cell_of x0 rfl
  have c3 : W0.cell? ⟨w.heap.size, 3, none⟩ = some (.int .i64 0) := cell_of x0 rfl
  have c4 : W0.cell? ⟨w.heap.size, 4, none⟩ = some (.int .i64 0) := cell_of x0 rfl
  have c5 : W0.cell? ⟨w.heap.size, 5, none⟩ = some (.string ⟨#[]⟩) := cell_of x0 rfl
  have c6 : W0.cell? ⟨w.heap.size, 6, none⟩ = some (.slice none 0 0) := cell_of x0 rfl
  have HN : Hid (Calls Tryz.prog 55 #[.agg #[.int .i64 0, .int .i64 0, .int .i64 0, .string ⟨#[]⟩, .slice none 0 0]] W0 fun e w' => e = .returned (.bool true) ∧ Hid (Below w.heap.size w w')) := by
    refine (noTree_any W0).mono ?_
    rintro e w' ⟨rfl, b⟩
    exact ⟨rfl, b0.trans (b.mono b0.size)⟩
  clear b0 x0
  rcases h with ⟨rfl, rfl⟩ | ⟨rfl, rfl⟩ | ⟨rfl, h1, h2⟩
  · go_enter Tryz.func91, Tryz.ntmps91
    go_wp2_with (go_at_call 55; refine HN.out.mono ?_; rintro e w' ⟨rfl, HB⟩)
    go_ret
    exact ⟨rfl, HB.out⟩
  · go_enter Tryz.func91, Tryz.ntmps91
    go_wp2_with (go_at_call 55; refine HN.out.mono ?_; rintro e w' ⟨rfl, HB⟩)
    go_ret
    exact ⟨rfl, HB.out⟩
  · go_enter Tryz.func91, Tryz.ntmps91
    go_wp2_with (go_at_call 55; refine HN.out.mono ?_; rintro e w' ⟨rfl, HB⟩)
    go_ret
    exact ⟨rfl, HB.out⟩
set_option maxHeartbeats 1600000 in
theorem addressesOK_any (w : World) (ak an : Int) (nt : Bool) (nm : ByteArray) (h : AdrOK ak an) : Calls Tryz.prog 56 #[.agg (sedA ak an nt nm)] w fun e w' => e = .returned (.bool true) ∧ Below w.heap.size w w' := by
  obtain ⟨W0, hW0⟩ : ∃ W0, w.alloc (.cells (sedA ak an nt nm) 60) = W0 := ⟨_, rfl⟩
  have b0 : Below w.heap.size w W0 := by rw [← hW0]; exact more (Below.refl _ _) _
  have x0 : W0.heap[w.heap.size]? = some (.cells (sedA ak an nt nm) 60 (0, 0)) := by rw [← hW0]; exact heap_alloc_new w _
  have c0 : W0.cell? ⟨w.heap.size, 0, none⟩ = some (.int .i64 ak) := cell_of x0 rfl
  have c1 : W0.cell? ⟨w.heap.size, 1, none⟩ = some (.int .i64 an) := cell_of x0 rfl
  have c2 : W0.cell? ⟨w.heap.size, 2, none⟩ = some (.int .i64 0) := cell_of x0 rfl
  have c3 : W0.cell? ⟨w.heap.size, 3, none⟩ = some (.int .i64 0) := cell_of x0 rfl
  have c4 : W0.cell? ⟨w.heap.size, 4, none⟩ = some (.int .i64 0) := cell_of x0 rfl
  have c5 : W0.cell? ⟨w.heap.size, 5, none⟩ = some (.string ⟨#[]⟩) := cell_of x0 rfl
  have c6 : W0.cell? ⟨w.heap.size, 6, none⟩ = some (.slice none 0 0) := cell_of x0 rfl
  have c7 : W0.cell? ⟨w.heap.size, 7, none⟩ = some (.int .i64 0) := cell_of x0 rfl
  have c8 : W0.cell? ⟨w.heap.size, 8, none⟩ = some (.int .i64 0) := cell_of x0 rfl
  have c9 : W0.cell? ⟨w.heap.size, 9, none⟩ = some (.int .i64 0) := cell_of x0 rfl
  have c10 : W0.cell? ⟨w.heap.size, 10, none⟩ = some (.int .i64 0) := cell_of x0 rfl
  have c11 : W0.cell? ⟨w.heap.size, 11, none⟩ = some (.int .i64 0) := cell_of x0 rfl
  have c12 : W0.cell? ⟨w.heap.size, 12, none⟩ = some (.string ⟨#[]⟩) := cell_of x0 rfl
  have c13 : W0.cell? ⟨w.heap.size, 13, none⟩ = some (.slice none 0 0) := cell_of x0 rfl
  have HN : Hid (Calls Tryz.prog 91 #[.agg #[.int .i64 ak, .int .i64 an, .int .i64 0, .int .i64 0, .int .i64 0, .string ⟨#[]⟩, .slice none 0 0]] W0 fun e w1 => e = .returned (.bool true) ∧ (w1.cell? ⟨w.heap.size, 0, none⟩ = some (.int .i64 ak)) ∧ w1.cell? ⟨w.heap.size, 7, none⟩ = some (.int .i64 0) ∧ w1.cell? ⟨w.heap.size, 8, none⟩ = some (.int .i64 0) ∧ w1.cell? ⟨w.heap.size, 9, none⟩ = some (.int .i64 0) ∧ w1.cell? ⟨w.heap.size, 10, none⟩ = some (.int .i64 0) ∧ w1.cell? ⟨w.heap.size, 11, none⟩ = some (.int .i64 0) ∧ w1.cell? ⟨w.heap.size, 12, none⟩ = some (.string ⟨#[]⟩) ∧ w1.cell? ⟨w.heap.size, 13, none⟩ = some (.slice none 0 0) ∧ Hid (Calls Tryz.prog 91 #[.agg #[.int .i64 0, .int .i64 0, .int .i64 0, .int .i64 0, .int .i64 0, .string ⟨#[]⟩, .slice none 0 0]] w1 fun e w2 => e = .returned (.bool true) ∧ (w2.cell? ⟨w.heap.size, 0, none⟩ = some (.int .i64 ak) ∧ w2.cell? ⟨w.heap.size, 7, none⟩ = some (.int .i64 0)) ∧ Hid (Below w.heap.size w w2))) := by
    refine (addressOK_any W0 ak an h).mono ?_
    rintro e w1 ⟨rfl, b1⟩
    refine ⟨rfl, cell_at b1 c0 (Nat.le_refl _), cell_at b1 c7 (Nat.le_refl _), cell_at b1 c8 (Nat.le_refl _), cell_at b1 c9 (Nat.le_refl _), cell_at b1 c10 (Nat.le_refl _), cell_at b1 c11 (Nat.le_refl _), cell_at b1 c12 (Nat.le_refl _), cell_at b1 c13 (Nat.le_refl _), ?_⟩
    refine (addressOK_any w1 0 0 (.inl ⟨rfl, rfl⟩)).mono ?_
    rintro e w2 ⟨rfl, b2⟩
    have b12 : Below W0.heap.size W0 w2 := b1.trans (b2.mono b1.size)
    exact ⟨rfl, ⟨cell_at b12 c0 (Nat.le_refl _), cell_at b12 c7 (Nat.le_refl _)⟩, b0.trans (b12.mono b0.size)⟩
  clear b0 x0 h
  go_enter Tryz.func56, Tryz.ntmps56
  go_wp2_with fail
  (try rw [hW0])
  refine HN.out.mono ?_
  rintro e w1 ⟨rfl, d0, d7, d8, d9, d10, d11, d12, d13, HM⟩
  clear HN hW0
  go_wp2_with fail
  refine HM.out.mono ?_
  rintro e w2 ⟨rfl, ⟨e0, e7⟩, HB⟩
  clear HM
  by_cases hk : ak = 0
  · subst hk
    go_wp2
    go_ret
    exact ⟨rfl, HB.out⟩
  · have hb : (ak != 0) = true := by rw [bne_iff_ne]; exact hk
    go_wp2
    go_ret
    exact ⟨rfl, HB.out⟩
end Go.Proofs.YtdhachmelgdknaaGreatDoor.chk
