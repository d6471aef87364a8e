/- The commands G, h and d are right. -/
import Derived.Test.YtdhachmelgdknaaGreatDoorCok
import Derived.Test.YtdhachmelgdknaaGreatDoorMG
import Derived.Test.YtdhachmelgdknaaGreatDoorSok
namespace Go.Proofs.YtdhachmelgdknaaGreatDoor.chk
open Go.ChangeShapes Go.WideShapes Go.ChangeAt Go.RowKit
open Go.Proofs.YtdhachmelgdknaaGreatDoor.bas Go.Proofs.YtdhachmelgdknaaGreatDoor.rdr
set_option linter.unusedVariables false
set_option maxRecDepth 20000 in
set_option maxHeartbeats 3200000 in
theorem commandOK_G (w : World) (ak an : Int) (nt : Bool) (h : AdrOK ak an) (i j : Int) : Calls Tryz.prog 35 #[.agg (sedA ak an nt ⟨#[71]⟩), .int .i64 i, .int .i64 j] w fun e w' => e = .returned (.bool true) ∧ Below w.heap.size w w' := by
  obtain ⟨nm, hnm⟩ : ∃ nm : ByteArray, nm = ⟨#[71]⟩ := ⟨_, rfl⟩
  rw [← hnm]
  have n123 : (nm.toList == [123]) = false := by rw [hnm]; exact one_ne (by decide)
  have n98 : (nm.toList == [98]) = false := by rw [hnm]; exact one_ne (by decide)
  have n116 : (nm.toList == [116]) = false := by rw [hnm]; exact one_ne (by decide)
  have n97 : (nm.toList == [97]) = false := by rw [hnm]; exact one_ne (by decide)
  have n105 : (nm.toList == [105]) = false := by rw [hnm]; exact one_ne (by decide)
  have n99 : (nm.toList == [99]) = false := by rw [hnm]; exact one_ne (by decide)
  have n115 : (nm.toList == [115]) = false := by rw [hnm]; exact one_ne (by decide)
  have n121 : (nm.toList == [121]) = false := by rw [hnm]; exact one_ne (by decide)
  have n113 : (nm.toList == [113]) = false := by rw [hnm]; exact one_ne (by decide)
  have n100 : (nm.toList == [100]) = false := by rw [hnm]; exact one_ne (by decide)
  have n68 : (nm.toList == [68]) = false := by rw [hnm]; exact one_ne (by decide)
  have n103 : (nm.toList == [103]) = false := by rw [hnm]; exact one_ne (by decide)
  have n71 : (nm.toList == [71]) = true := by rw [hnm]; exact one_eq _
  obtain ⟨W0, hW0⟩ : ∃ W0, w.alloc (.cells (sedA ak an nt nm) 60) = W0 := ⟨_, rfl⟩
  have b0 : Below w.heap.size w W0 := by rw [← hW0]; exact more (Below.refl _ _) _
  have s0 : W0.heap.size = w.heap.size + 1 := by rw [← hW0]; exact World.size_alloc ..
  have x0 : W0.heap[w.heap.size]? = some (.cells (sedA ak an nt nm) 60 (0, 0)) := by rw [← hW0]; exact heap_alloc_new w _
  obtain ⟨W4, hW4⟩ : ∃ W4, W0.drew = W4 := ⟨_, rfl⟩
  have b4 : Below W0.heap.size W0 W4 := by rw [← hW4]; exact (Below.refl _ _).drew
  have s4 : W4.heap.size = w.heap.size + 1 := by rw [← hW4]; exact s0
  have x4 : W4.heap[w.heap.size]? = some (.cells (sedA ak an nt nm) 60 (0, 0)) := kept b4 x0 (Nat.le_refl _)
  have xa : (W4.alloc (.cells #[.int .i64 0, .int .i64 0, .int .i64 0, .int .i64 0, .int .i64 0, .string ⟨#[]⟩, .slice none 0 0, .int .i64 0, .int .i64 0, .int .i64 0, .int .i64 0, .int .i64 0, .string ⟨#[]⟩, .slice none 0 0, .bool false, .string ⟨#[]⟩, .string ⟨#[]⟩, .int .i64 0, .int .i64 0, .int .i64 0, .string ⟨#[]⟩, .slice none 0 0, .bool false, .bool false, .int .i64 0, .int .i64 0] 60)).heap[w.heap.size + 1]? = some (.cells #[.int .i64 0, .int .i64 0, .int .i64 0, .int .i64 0, .int .i64 0, .string ⟨#[]⟩, .slice none 0 0, .int .i64 0, .int .i64 0, .int .i64 0, .int .i64 0, .int .i64 0, .string ⟨#[]⟩, .slice none 0 0, .bool false, .string ⟨#[]⟩, .string ⟨#[]⟩, .int .i64 0, .int .i64 0, .int .i64 0, .string ⟨#[]⟩, .slice none 0 0, .bool false, .bool false, .int .i64 0, .int .i64 0] 60 (0, 0)) := by rw [← s4]; exact heap_alloc_new W4 _
  have ba : Below W4.heap.size W4 (W4.alloc (.cells #[.int .i64 0, .int .i64 0, .int .i64 0, .int .i64 0, .int .i64 0, .string ⟨#[]⟩, .slice none 0 0, .int .i64 0, .int .i64 0, .int .i64 0, .int .i64 0, .int .i64 0, .string ⟨#[]⟩, .slice none 0 0, .bool false, .string ⟨#[]⟩, .string ⟨#[]⟩, .int .i64 0, .int .i64 0, .int .i64 0, .string ⟨#[]⟩, .slice none 0 0, .bool false, .bool false, .int .i64 0, .int .i64 0] 60)) := more (Below.refl _ _) _
  have x5 : (W4.alloc (.cells #[.int .i64 0, .int .i64 0, .int .i64 0, .int .i64 0, .int .i64 0, .string ⟨#[]⟩, .slice none 0 0, .int .i64 0, .int .i64 0, .int .i64 0, .int .i64 0, .int .i64 0, .string ⟨#[]⟩, .slice none 0 0, .bool false, .string ⟨#[]⟩, .string ⟨#[]⟩, .int .i64 0, .int .i64 0, .int .i64 0, .string ⟨#[]⟩, .slice none 0 0, .bool false, .bool false, .int .i64 0, .int .i64 0] 60)).heap[w.heap.size]? = some (.cells (sedA ak an nt nm) 60 (0, 0)) := kept ba x4 (Nat.le_refl _)
  have hst := run_storeCells_row (P := Tryz.prog) _ _ 60 _ (sedA ak an nt nm) xa rfl (one_sed _ _ _ _)
  have HW : Hid (∃ W5, (W4.alloc (.cells #[.int .i64 0, .int .i64 0, .int .i64 0, .int .i64 0, .int .i64 0, .string ⟨#[]⟩, .slice none 0 0, .int .i64 0, .int .i64 0, .int .i64 0, .int .i64 0, .int .i64 0, .string ⟨#[]⟩, .slice none 0 0, .bool false, .string ⟨#[]⟩, .string ⟨#[]⟩, .int .i64 0, .int .i64 0, .int .i64 0, .string ⟨#[]⟩, .slice none 0 0, .bool false, .bool false, .int .i64 0, .int .i64 0] 60)).setRow (w.heap.size + 1) (sedA ak an nt nm) = W5 ∧ (W5.cell? ⟨w.heap.size, 15, none⟩ = some (.string nm) ∧ W5.cell? ⟨w.heap.size, 16, none⟩ = some (.string ⟨#[]⟩)) ∧ (W5.cell? ⟨w.heap.size + 1, 16, none⟩ = some (.string ⟨#[]⟩) ∧ W5.cell? ⟨w.heap.size + 1, 17, none⟩ = some (.int .i64 0) ∧ W5.cell? ⟨w.heap.size + 1, 18, none⟩ = some (.int .i64 0) ∧ W5.cell? ⟨w.heap.size + 1, 19, none⟩ = some (.int .i64 0) ∧ W5.cell? ⟨w.heap.size + 1, 20, none⟩ = some (.string ⟨#[]⟩) ∧ W5.cell? ⟨w.heap.size + 1, 21, none⟩ = some (.slice none 0 0) ∧ W5.cell? ⟨w.heap.size + 1, 22, none⟩ = some (.bool false) ∧ W5.cell? ⟨w.heap.size + 1, 23, none⟩ = some (.bool false) ∧ W5.cell? ⟨w.heap.size + 1, 24, none⟩ = some (.int .i64 0) ∧ W5.cell? ⟨w.heap.size + 1, 25, none⟩ = some (.int .i64 0)) ∧ Hid (Calls Tryz.prog 55 #[.agg #[.int .i64 0, .int .i64 0, .int .i64 0, .string ⟨#[]⟩, .slice none 0 0]] W5 fun e w6 => e = .returned (.bool true) ∧ (w6.cell? ⟨w.heap.size + 1, 22, none⟩ = some (.bool false) ∧ w6.cell? ⟨w.heap.size + 1, 23, none⟩ = some (.bool false) ∧ w6.cell? ⟨w.heap.size + 1, 24, none⟩ = some (.int .i64 0) ∧ w6.cell? ⟨w.heap.size + 1, 25, none⟩ = some (.int .i64 0)) ∧ w6.cell? ⟨w.heap.size, 16, none⟩ = some (.string ⟨#[]⟩) ∧ Hid (w6.heap[w.heap.size]? = some (.cells (sedA ak an nt nm) 60 (0, 0))) ∧ Hid (Calls Tryz.prog 56 #[.agg (sedA ak an nt nm)] w6 fun e w7 => e = .returned (.bool true) ∧ Hid (Below w.heap.size w w7)))) := by
    have z0 : ((W4.alloc (.cells #[.int .i64 0, .int .i64 0, .int .i64 0, .int .i64 0, .int .i64 0, .string ⟨#[]⟩, .slice none 0 0, .int .i64 0, .int .i64 0, .int .i64 0, .int .i64 0, .int .i64 0, .string ⟨#[]⟩, .slice none 0 0, .bool false, .string ⟨#[]⟩, .string ⟨#[]⟩, .int .i64 0, .int .i64 0, .int .i64 0, .string ⟨#[]⟩, .slice none 0 0, .bool false, .bool false, .int .i64 0, .int .i64 0] 60)).setRow (w.heap.size + 1) (sedA ak an nt nm)).heap[w.heap.size]? = some (.cells (sedA ak an nt nm) 60 (0, 0)) := (setRow_other _ _ _ _ (by omega)).trans x5
    have z1 : ((W4.alloc (.cells #[.int .i64 0, .int .i64 0, .int .i64 0, .int .i64 0, .int .i64 0, .string ⟨#[]⟩, .slice none 0 0, .int .i64 0, .int .i64 0, .int .i64 0, .int .i64 0, .int .i64 0, .string ⟨#[]⟩, .slice none 0 0, .bool false, .string ⟨#[]⟩, .string ⟨#[]⟩, .int .i64 0, .int .i64 0, .int .i64 0, .string ⟨#[]⟩, .slice none 0 0, .bool false, .bool false, .int .i64 0, .int .i64 0] 60)).setRow (w.heap.size + 1) (sedA ak an nt nm)).heap[w.heap.size + 1]? = some (.cells (sedA ak an nt nm) 60 (0, 0)) := setRow_heap _ _ _ _ _ _ xa
    have bz : Below w.heap.size w ((W4.alloc (.cells #[.int .i64 0, .int .i64 0, .int .i64 0, .int .i64 0, .int .i64 0, .string ⟨#[]⟩, .slice none 0 0, .int .i64 0, .int .i64 0, .int .i64 0, .int .i64 0, .int .i64 0, .string ⟨#[]⟩, .slice none 0 0, .bool false, .string ⟨#[]⟩, .string ⟨#[]⟩, .int .i64 0, .int .i64 0, .int .i64 0, .string ⟨#[]⟩, .slice none 0 0, .bool false, .bool false, .int .i64 0, .int .i64 0] 60)).setRow (w.heap.size + 1) (sedA ak an nt nm)) := by
      have b := (b0.trans (b4.mono (by omega))).trans (ba.mono (by omega))
      exact ⟨b.os, b.tape, b.output, by simpa [World.setRow] using b.size, fun k hk => (setRow_other _ _ _ _ (by omega)).trans (b.block k hk)⟩
    obtain ⟨W5, hW5⟩ : ∃ W5, (W4.alloc (.cells #[.int .i64 0, .int .i64 0, .int .i64 0, .int .i64 0, .int .i64 0, .string ⟨#[]⟩, .slice none 0 0, .int .i64 0, .int .i64 0, .int .i64 0, .int .i64 0, .int .i64 0, .string ⟨#[]⟩, .slice none 0 0, .bool false, .string ⟨#[]⟩, .string ⟨#[]⟩, .int .i64 0, .int .i64 0, .int .i64 0, .string ⟨#[]⟩, .slice none 0 0, .bool false, .bool false, .int .i64 0, .int .i64 0] 60)).setRow (w.heap.size + 1) (sedA ak an nt nm) = W5 := ⟨_, rfl⟩
    rw [hW5] at z0 z1 bz
    refine ⟨W5, hW5, ⟨cell_of z0 rfl, cell_of z0 rfl⟩, ⟨cell_of z1 rfl, cell_of z1 rfl, cell_of z1 rfl, cell_of z1 rfl, cell_of z1 rfl, cell_of z1 rfl, cell_of z1 rfl, cell_of z1 rfl, cell_of z1 rfl, cell_of z1 rfl⟩, ?_⟩
    refine (noTree_any W5).mono ?_
    rintro e w6 ⟨rfl, b6⟩
    have y0 := kept b6 z0 (Nat.le_refl _)
    have y1 := kept b6 z1 (Nat.le_refl _)
    refine ⟨rfl, ⟨cell_of y1 rfl, cell_of y1 rfl, cell_of y1 rfl, cell_of y1 rfl⟩, cell_of y0 rfl, y0, ?_⟩
    refine (addressesOK_any w6 ak an nt nm h).mono ?_
    rintro e w7 ⟨rfl, b7⟩
    have := bz.size
    exact ⟨rfl, (bz.trans (b6.mono (by omega))).trans (b7.mono (by have := b6.size; omega))⟩
  have hmt := mt_empty
  have HX4 := hide x4
  have HX5 := hide x5
  have Hst := hide hst
  clear b0 x0 b4 x4 xa ba x5 hst hnm h s0
  go_enter Tryz.func35, Tryz.ntmps35
  go_wp2_with fail
  (try rw [hW0])
  refine wtl.WT.start (S := fun wx => wx.heap[w.heap.size]? = some (.cells (sedA ak an nt nm) 60 (0, 0))) (n := 3) (by kernel_rfl) (by rfl) ?_
  rw [hW4]
  clear hW4 hW0
  have hcs : (sedA ak an nt nm).size = 26 := rfl
  refine wtl.WT.branch (rs := [0, 1]) (by kernel_rfl) (by simp) (by decide) ?_
  intro i9 hi9
  rcases List.mem_cons.1 hi9 with rfl | hi9
  · refine wtl.op_step rfl (fun K hK => ?_)
    rw [if_pos (by rfl)]
    refine wp_load_row 60 _ rfl w.heap.size rfl 60 _ (0, 0) _ HX4.out Tryz.underlying60 rfl (size60 _ _ _ _) ?_
    refine hK.out _ _ HX4.out ?_
    clear hK K
    refine wtl.WT.branch (rs := [1]) (by kernel_rfl) (by simp) (by decide) ?_
    intro i9 hi9
    obtain rfl := List.mem_singleton.1 hi9
    refine wtl.op_step rfl (fun K hK => ?_)
    go_simp
    refine hK.out _ _ HX5.out ?_
    clear hK K
    refine wtl.WT.takeAt (i := 2) (v := ?_) (some 7) rfl rfl (by kernel_rfl) (fun _ _ _ h => h) (Or.inl ⟨by rfl, ?_⟩) HX5.out ?_
    rotate_left
    · intro wx hSw
      go_simp
      all_goals (with_reducible rfl)
    refine wtl.WT.last rfl (by kernel_rfl) (by kernel_rfl) (by kernel_rfl) (fun K hK => ?_)
    have hst := Hst.out
    go_simp
    refine hK.out _ _ ?_
    clear hK K hst
    obtain ⟨W5, hW5, ⟨c15, c16⟩, ⟨d16, d17, d18, d19, d20, d21, d22, d23, d24, d25⟩, HN⟩ := HW.out
    rw [hW5]
    clear HW HX4 HX5 Hst hW5
    go_wp2_with fail
    refine HN.out.mono ?_
    rintro e w6 ⟨rfl, ⟨g22, g23, g24, g25⟩, e16, HY, HM⟩
    clear HN
    go_wp2_with (first
      | (refine wpList_load_row_g (by rfl) _ _ rfl w.heap.size rfl 60 _ (0, 0) _ HY.out Tryz.underlying60 rfl (size60 _ _ _ _) ?_)
      | (go_at_call 56; refine HM.out.mono ?_; rintro e w7 ⟨rfl, HB⟩))
    go_ret
    exact ⟨rfl, HB.out⟩
  · obtain rfl := List.mem_singleton.1 hi9
    refine wtl.op_step rfl (fun K hK => ?_)
    go_simp
    refine hK.out _ _ HX5.out ?_
    clear hK K
    refine wtl.WT.takeAt (i := 2) (v := ?_) (some 7) rfl rfl (by kernel_rfl) (fun _ _ _ h => h) (Or.inl ⟨by rfl, ?_⟩) HX5.out ?_
    rotate_left
    · intro wx hSw
      go_simp
      all_goals (with_reducible rfl)
    refine wtl.WT.branch (rs := [0]) (by kernel_rfl) (by simp) (by decide) ?_
    intro i9 hi9
    obtain rfl := List.mem_singleton.1 hi9
    refine wtl.op_step rfl (fun K hK => ?_)
    rw [if_pos (by rfl)]
    refine wp_load_row 60 _ rfl w.heap.size rfl 60 _ (0, 0) _ HX5.out Tryz.underlying60 rfl (size60 _ _ _ _) ?_
    refine hK.out _ _ HX5.out ?_
    clear hK K
    refine wtl.WT.last rfl (by kernel_rfl) (by kernel_rfl) (by kernel_rfl) (fun K hK => ?_)
    have hst := Hst.out
    go_simp
    refine hK.out _ _ ?_
    clear hK K hst
    obtain ⟨W5, hW5, ⟨c15, c16⟩, ⟨d16, d17, d18, d19, d20, d21, d22, d23, d24, d25⟩, HN⟩ := HW.out
    rw [hW5]
    clear HW HX4 HX5 Hst hW5
    go_wp2_with fail
    refine HN.out.mono ?_
    rintro e w6 ⟨rfl, ⟨g22, g23, g24, g25⟩, e16, HY, HM⟩
    clear HN
    go_wp2_with (first
      | (refine wpList_load_row_g (by rfl) _ _ rfl w.heap.size rfl 60 _ (0, 0) _ HY.out Tryz.underlying60 rfl (size60 _ _ _ _) ?_)
      | (go_at_call 56; refine HM.out.mono ?_; rintro e w7 ⟨rfl, HB⟩))
    go_ret
    exact ⟨rfl, HB.out⟩
set_option maxRecDepth 20000 in
set_option maxHeartbeats 3200000 in
theorem commandOK_h (w : World) (ak an : Int) (nt : Bool) (h : AdrOK ak an) (i j : Int) : Calls Tryz.prog 35 #[.agg (sedA ak an nt ⟨#[104]⟩), .int .i64 i, .int .i64 j] w fun e w' => e = .returned (.bool true) ∧ Below w.heap.size w w' := by
  obtain ⟨nm, hnm⟩ : ∃ nm : ByteArray, nm = ⟨#[104]⟩ := ⟨_, rfl⟩
  rw [← hnm]
  have n123 : (nm.toList == [123]) = false := by rw [hnm]; exact one_ne (by decide)
  have n98 : (nm.toList == [98]) = false := by rw [hnm]; exact one_ne (by decide)
  have n116 : (nm.toList == [116]) = false := by rw [hnm]; exact one_ne (by decide)
  have n97 : (nm.toList == [97]) = false := by rw [hnm]; exact one_ne (by decide)
  have n105 : (nm.toList == [105]) = false := by rw [hnm]; exact one_ne (by decide)
  have n99 : (nm.toList == [99]) = false := by rw [hnm]; exact one_ne (by decide)
  have n115 : (nm.toList == [115]) = false := by rw [hnm]; exact one_ne (by decide)
  have n121 : (nm.toList == [121]) = false := by rw [hnm]; exact one_ne (by decide)
  have n113 : (nm.toList == [113]) = false := by rw [hnm]; exact one_ne (by decide)
  have n100 : (nm.toList == [100]) = false := by rw [hnm]; exact one_ne (by decide)
  have n68 : (nm.toList == [68]) = false := by rw [hnm]; exact one_ne (by decide)
  have n103 : (nm.toList == [103]) = false := by rw [hnm]; exact one_ne (by decide)
  have n71 : (nm.toList == [71]) = false := by rw [hnm]; exact one_ne (by decide)
  have n104 : (nm.toList == [104]) = true := by rw [hnm]; exact one_eq _
  obtain ⟨W0, hW0⟩ : ∃ W0, w.alloc (.cells (sedA ak an nt nm) 60) = W0 := ⟨_, rfl⟩
  have b0 : Below w.heap.size w W0 := by rw [← hW0]; exact more (Below.refl _ _) _
  have s0 : W0.heap.size = w.heap.size + 1 := by rw [← hW0]; exact World.size_alloc ..
  have x0 : W0.heap[w.heap.size]? = some (.cells (sedA ak an nt nm) 60 (0, 0)) := by rw [← hW0]; exact heap_alloc_new w _
  obtain ⟨W4, hW4⟩ : ∃ W4, W0.drew = W4 := ⟨_, rfl⟩
  have b4 : Below W0.heap.size W0 W4 := by rw [← hW4]; exact (Below.refl _ _).drew
  have s4 : W4.heap.size = w.heap.size + 1 := by rw [← hW4]; exact s0
  have x4 : W4.heap[w.heap.size]? = some (.cells (sedA ak an nt nm) 60 (0, 0)) := kept b4 x0 (Nat.le_refl _)
  have xa : (W4.alloc (.cells #[.int .i64 0, .int .i64 0, .int .i64 0, .int .i64 0, .int .i64 0, .string ⟨#[]⟩, .slice none 0 0, .int .i64 0, .int .i64 0, .int .i64 0, .int .i64 0, .int .i64 0, .string ⟨#[]⟩, .slice none 0 0, .bool false, .string ⟨#[]⟩, .string ⟨#[]⟩, .int .i64 0, .int .i64 0, .int .i64 0, .string ⟨#[]⟩, .slice none 0 0, .bool false, .bool false, .int .i64 0, .int .i64 0] 60)).heap[w.heap.size + 1]? = some (.cells #[.int .i64 0, .int .i64 0, .int .i64 0, .int .i64 0, .int .i64 0, .string ⟨#[]⟩, .slice none 0 0, .int .i64 0, .int .i64 0, .int .i64 0, .int .i64 0, .int .i64 0, .string ⟨#[]⟩, .slice none 0 0, .bool false, .string ⟨#[]⟩, .string ⟨#[]⟩, .int .i64 0, .int .i64 0, .int .i64 0, .string ⟨#[]⟩, .slice none 0 0, .bool false, .bool false, .int .i64 0, .int .i64 0] 60 (0, 0)) := by rw [← s4]; exact heap_alloc_new W4 _
  have ba : Below W4.heap.size W4 (W4.alloc (.cells #[.int .i64 0, .int .i64 0, .int .i64 0, .int .i64 0, .int .i64 0, .string ⟨#[]⟩, .slice none 0 0, .int .i64 0, .int .i64 0, .int .i64 0, .int .i64 0, .int .i64 0, .string ⟨#[]⟩, .slice none 0 0, .bool false, .string ⟨#[]⟩, .string ⟨#[]⟩, .int .i64 0, .int .i64 0, .int .i64 0, .string ⟨#[]⟩, .slice none 0 0, .bool false, .bool false, .int .i64 0, .int .i64 0] 60)) := more (Below.refl _ _) _
  have x5 : (W4.alloc (.cells #[.int .i64 0, .int .i64 0, .int .i64 0, .int .i64 0, .int .i64 0, .string ⟨#[]⟩, .slice none 0 0, .int .i64 0, .int .i64 0, .int .i64 0, .int .i64 0, .int .i64 0, .string ⟨#[]⟩, .slice none 0 0, .bool false, .string ⟨#[]⟩, .string ⟨#[]⟩, .int .i64 0, .int .i64 0, .int .i64 0, .string ⟨#[]⟩, .slice none 0 0, .bool false, .bool false, .int .i64 0, .int .i64 0] 60)).heap[w.heap.size]? = some (.cells (sedA ak an nt nm) 60 (0, 0)) := kept ba x4 (Nat.le_refl _)
  have hst := run_storeCells_row (P := Tryz.prog) _ _ 60 _ (sedA ak an nt nm) xa rfl (one_sed _ _ _ _)
  have HW : Hid (∃ W5, (W4.alloc (.cells #[.int .i64 0, .int .i64 0, .int .i64 0, .int .i64 0, .int .i64 0, .string ⟨#[]⟩, .slice none 0 0, .int .i64 0, .int .i64 0, .int .i64 0, .int .i64 0, .int .i64 0, .string ⟨#[]⟩, .slice none 0 0, .bool false, .string ⟨#[]⟩, .string ⟨#[]⟩, .int .i64 0, .int .i64 0, .int .i64 0, .string ⟨#[]⟩, .slice none 0 0, .bool false, .bool false, .int .i64 0, .int .i64 0] 60)).setRow (w.heap.size + 1) (sedA ak an nt nm) = W5 ∧ (W5.cell? ⟨w.heap.size, 15, none⟩ = some (.string nm) ∧ W5.cell? ⟨w.heap.size, 16, none⟩ = some (.string ⟨#[]⟩)) ∧ (W5.cell? ⟨w.heap.size + 1, 16, none⟩ = some (.string ⟨#[]⟩) ∧ W5.cell? ⟨w.heap.size + 1, 17, none⟩ = some (.int .i64 0) ∧ W5.cell? ⟨w.heap.size + 1, 18, none⟩ = some (.int .i64 0) ∧ W5.cell? ⟨w.heap.size + 1, 19, none⟩ = some (.int .i64 0) ∧ W5.cell? ⟨w.heap.size + 1, 20, none⟩ = some (.string ⟨#[]⟩) ∧ W5.cell? ⟨w.heap.size + 1, 21, none⟩ = some (.slice none 0 0) ∧ W5.cell? ⟨w.heap.size + 1, 22, none⟩ = some (.bool false) ∧ W5.cell? ⟨w.heap.size + 1, 23, none⟩ = some (.bool false) ∧ W5.cell? ⟨w.heap.size + 1, 24, none⟩ = some (.int .i64 0) ∧ W5.cell? ⟨w.heap.size + 1, 25, none⟩ = some (.int .i64 0)) ∧ Hid (Calls Tryz.prog 55 #[.agg #[.int .i64 0, .int .i64 0, .int .i64 0, .string ⟨#[]⟩, .slice none 0 0]] W5 fun e w6 => e = .returned (.bool true) ∧ (w6.cell? ⟨w.heap.size + 1, 22, none⟩ = some (.bool false) ∧ w6.cell? ⟨w.heap.size + 1, 23, none⟩ = some (.bool false) ∧ w6.cell? ⟨w.heap.size + 1, 24, none⟩ = some (.int .i64 0) ∧ w6.cell? ⟨w.heap.size + 1, 25, none⟩ = some (.int .i64 0)) ∧ w6.cell? ⟨w.heap.size, 16, none⟩ = some (.string ⟨#[]⟩) ∧ Hid (w6.heap[w.heap.size]? = some (.cells (sedA ak an nt nm) 60 (0, 0))) ∧ Hid (Calls Tryz.prog 56 #[.agg (sedA ak an nt nm)] w6 fun e w7 => e = .returned (.bool true) ∧ Hid (Below w.heap.size w w7)))) := by
    have z0 : ((W4.alloc (.cells #[.int .i64 0, .int .i64 0, .int .i64 0, .int .i64 0, .int .i64 0, .string ⟨#[]⟩, .slice none 0 0, .int .i64 0, .int .i64 0, .int .i64 0, .int .i64 0, .int .i64 0, .string ⟨#[]⟩, .slice none 0 0, .bool false, .string ⟨#[]⟩, .string ⟨#[]⟩, .int .i64 0, .int .i64 0, .int .i64 0, .string ⟨#[]⟩, .slice none 0 0, .bool false, .bool false, .int .i64 0, .int .i64 0] 60)).setRow (w.heap.size + 1) (sedA ak an nt nm)).heap[w.heap.size]? = some (.cells (sedA ak an nt nm) 60 (0, 0)) := (setRow_other _ _ _ _ (by omega)).trans x5
    have z1 : ((W4.alloc (.cells #[.int .i64 0, .int .i64 0, .int .i64 0, .int .i64 0, .int .i64 0, .string ⟨#[]⟩, .slice none 0 0, .int .i64 0, .int .i64 0, .int .i64 0, .int .i64 0, .int .i64 0, .string ⟨#[]⟩, .slice none 0 0, .bool false, .string ⟨#[]⟩, .string ⟨#[]⟩, .int .i64 0, .int .i64 0, .int .i64 0, .string ⟨#[]⟩, .slice none 0 0, .bool false, .bool false, .int .i64 0, .int .i64 0] 60)).setRow (w.heap.size + 1) (sedA ak an nt nm)).heap[w.heap.size + 1]? = some (.cells (sedA ak an nt nm) 60 (0, 0)) := setRow_heap _ _ _ _ _ _ xa
    have bz : Below w.heap.size w ((W4.alloc (.cells #[.int .i64 0, .int .i64 0, .int .i64 0, .int .i64 0, .int .i64 0, .string ⟨#[]⟩, .slice none 0 0, .int .i64 0, .int .i64 0, .int .i64 0, .int .i64 0, .int .i64 0, .string ⟨#[]⟩, .slice none 0 0, .bool false, .string ⟨#[]⟩, .string ⟨#[]⟩, .int .i64 0, .int .i64 0, .int .i64 0, .string ⟨#[]⟩, .slice none 0 0, .bool false, .bool false, .int .i64 0, .int .i64 0] 60)).setRow (w.heap.size + 1) (sedA ak an nt nm)) := by
      have b := (b0.trans (b4.mono (by omega))).trans (ba.mono (by omega))
      exact ⟨b.os, b.tape, b.output, by simpa [World.setRow] using b.size, fun k hk => (setRow_other _ _ _ _ (by omega)).trans (b.block k hk)⟩
    obtain ⟨W5, hW5⟩ : ∃ W5, (W4.alloc (.cells #[.int .i64 0, .int .i64 0, .int .i64 0, .int .i64 0, .int .i64 0, .string ⟨#[]⟩, .slice none 0 0, .int .i64 0, .int .i64 0, .int .i64 0, .int .i64 0, .int .i64 0, .string ⟨#[]⟩, .slice none 0 0, .bool false, .string ⟨#[]⟩, .string ⟨#[]⟩, .int .i64 0, .int .i64 0, .int .i64 0, .string ⟨#[]⟩, .slice none 0 0, .bool false, .bool false, .int .i64 0, .int .i64 0] 60)).setRow (w.heap.size + 1) (sedA ak an nt nm) = W5 := ⟨_, rfl⟩
    rw [hW5] at z0 z1 bz
    refine ⟨W5, hW5, ⟨cell_of z0 rfl, cell_of z0 rfl⟩, ⟨cell_of z1 rfl, cell_of z1 rfl, cell_of z1 rfl, cell_of z1 rfl, cell_of z1 rfl, cell_of z1 rfl, cell_of z1 rfl, cell_of z1 rfl, cell_of z1 rfl, cell_of z1 rfl⟩, ?_⟩
    refine (noTree_any W5).mono ?_
    rintro e w6 ⟨rfl, b6⟩
    have y0 := kept b6 z0 (Nat.le_refl _)
    have y1 := kept b6 z1 (Nat.le_refl _)
    refine ⟨rfl, ⟨cell_of y1 rfl, cell_of y1 rfl, cell_of y1 rfl, cell_of y1 rfl⟩, cell_of y0 rfl, y0, ?_⟩
    refine (addressesOK_any w6 ak an nt nm h).mono ?_
    rintro e w7 ⟨rfl, b7⟩
    have := bz.size
    exact ⟨rfl, (bz.trans (b6.mono (by omega))).trans (b7.mono (by have := b6.size; omega))⟩
  have hmt := mt_empty
  have HX4 := hide x4
  have HX5 := hide x5
  have Hst := hide hst
  clear b0 x0 b4 x4 xa ba x5 hst hnm h s0
  go_enter Tryz.func35, Tryz.ntmps35
  go_wp2_with fail
  (try rw [hW0])
  refine wtl.WT.start (S := fun wx => wx.heap[w.heap.size]? = some (.cells (sedA ak an nt nm) 60 (0, 0))) (n := 3) (by kernel_rfl) (by rfl) ?_
  rw [hW4]
  clear hW4 hW0
  have hcs : (sedA ak an nt nm).size = 26 := rfl
  refine wtl.WT.branch (rs := [0, 1]) (by kernel_rfl) (by simp) (by decide) ?_
  intro i9 hi9
  rcases List.mem_cons.1 hi9 with rfl | hi9
  · refine wtl.op_step rfl (fun K hK => ?_)
    rw [if_pos (by rfl)]
    refine wp_load_row 60 _ rfl w.heap.size rfl 60 _ (0, 0) _ HX4.out Tryz.underlying60 rfl (size60 _ _ _ _) ?_
    refine hK.out _ _ HX4.out ?_
    clear hK K
    refine wtl.WT.branch (rs := [1]) (by kernel_rfl) (by simp) (by decide) ?_
    intro i9 hi9
    obtain rfl := List.mem_singleton.1 hi9
    refine wtl.op_step rfl (fun K hK => ?_)
    go_simp
    refine hK.out _ _ HX5.out ?_
    clear hK K
    refine wtl.WT.takeAt (i := 2) (v := ?_) (some 7) rfl rfl (by kernel_rfl) (fun _ _ _ h => h) (Or.inl ⟨by rfl, ?_⟩) HX5.out ?_
    rotate_left
    · intro wx hSw
      go_simp
      all_goals (with_reducible rfl)
    refine wtl.WT.last rfl (by kernel_rfl) (by kernel_rfl) (by kernel_rfl) (fun K hK => ?_)
    have hst := Hst.out
    go_simp
    refine hK.out _ _ ?_
    clear hK K hst
    obtain ⟨W5, hW5, ⟨c15, c16⟩, ⟨d16, d17, d18, d19, d20, d21, d22, d23, d24, d25⟩, HN⟩ := HW.out
    rw [hW5]
    clear HW HX4 HX5 Hst hW5
    go_wp2_with fail
    refine HN.out.mono ?_
    rintro e w6 ⟨rfl, ⟨g22, g23, g24, g25⟩, e16, HY, HM⟩
    clear HN
    go_wp2_with (first
      | (refine wpList_load_row_g (by rfl) _ _ rfl w.heap.size rfl 60 _ (0, 0) _ HY.out Tryz.underlying60 rfl (size60 _ _ _ _) ?_)
      | (go_at_call 56; refine HM.out.mono ?_; rintro e w7 ⟨rfl, HB⟩))
    go_ret
    exact ⟨rfl, HB.out⟩
  · obtain rfl := List.mem_singleton.1 hi9
    refine wtl.op_step rfl (fun K hK => ?_)
    go_simp
    refine hK.out _ _ HX5.out ?_
    clear hK K
    refine wtl.WT.takeAt (i := 2) (v := ?_) (some 7) rfl rfl (by kernel_rfl) (fun _ _ _ h => h) (Or.inl ⟨by rfl, ?_⟩) HX5.out ?_
    rotate_left
    · intro wx hSw
      go_simp
      all_goals (with_reducible rfl)
    refine wtl.WT.branch (rs := [0]) (by kernel_rfl) (by simp) (by decide) ?_
    intro i9 hi9
    obtain rfl := List.mem_singleton.1 hi9
    refine wtl.op_step rfl (fun K hK => ?_)
    rw [if_pos (by rfl)]
    refine wp_load_row 60 _ rfl w.heap.size rfl 60 _ (0, 0) _ HX5.out Tryz.underlying60 rfl (size60 _ _ _ _) ?_
    refine hK.out _ _ HX5.out ?_
    clear hK K
    refine wtl.WT.last rfl (by kernel_rfl) (by kernel_rfl) (by kernel_rfl) (fun K hK => ?_)
    have hst := Hst.out
    go_simp
    refine hK.out _ _ ?_
    clear hK K hst
    obtain ⟨W5, hW5, ⟨c15, c16⟩, ⟨d16, d17, d18, d19, d20, d21, d22, d23, d24, d25⟩, HN⟩ := HW.out
    rw [hW5]
    clear HW HX4 HX5 Hst hW5
    go_wp2_with fail
    refine HN.out.mono ?_
    rintro e w6 ⟨rfl, ⟨g22, g23, g24, g25⟩, e16, HY, HM⟩
    clear HN
    go_wp2_with (first
      | (refine wpList_load_row_g (by rfl) _ _ rfl w.heap.size rfl 60 _ (0, 0) _ HY.out Tryz.underlying60 rfl (size60 _ _ _ _) ?_)
      | (go_at_call 56; refine HM.out.mono ?_; rintro e w7 ⟨rfl, HB⟩))
    go_ret
    exact ⟨rfl, HB.out⟩
set_option maxRecDepth 20000 in
set_option maxHeartbeats 3200000 in
theorem commandOK_d (w : World) (ak an : Int) (nt : Bool) (h : AdrOK ak an) (i j : Int) : Calls Tryz.prog 35 #[.agg (sedA ak an nt ⟨#[100]⟩), .int .i64 i, .int .i64 j] w fun e w' => e = .returned (.bool true) ∧ Below w.heap.size w w' := by
  obtain ⟨nm, hnm⟩ : ∃ nm : ByteArray, nm = ⟨#[100]⟩ := ⟨_, rfl⟩
  rw [← hnm]
  have n123 : (nm.toList == [123]) = false := by rw [hnm]; exact one_ne (by decide)
  have n98 : (nm.toList == [98]) = false := by rw [hnm]; exact one_ne (by decide)
  have n116 : (nm.toList == [116]) = false := by rw [hnm]; exact one_ne (by decide)
  have n97 : (nm.toList == [97]) = false := by rw [hnm]; exact one_ne (by decide)
  have n105 : (nm.toList == [105]) = false := by rw [hnm]; exact one_ne (by decide)
  have n99 : (nm.toList == [99]) = false := by rw [hnm]; exact one_ne (by decide)
  have n115 : (nm.toList == [115]) = false := by rw [hnm]; exact one_ne (by decide)
  have n121 : (nm.toList == [121]) = false := by rw [hnm]; exact one_ne (by decide)
  have n113 : (nm.toList == [113]) = false := by rw [hnm]; exact one_ne (by decide)
  have n100 : (nm.toList == [100]) = true := by rw [hnm]; exact one_eq _
  obtain ⟨W0, hW0⟩ : ∃ W0, w.alloc (.cells (sedA ak an nt nm) 60) = W0 := ⟨_, rfl⟩
  have b0 : Below w.heap.size w W0 := by rw [← hW0]; exact more (Below.refl _ _) _
  have s0 : W0.heap.size = w.heap.size + 1 := by rw [← hW0]; exact World.size_alloc ..
  have x0 : W0.heap[w.heap.size]? = some (.cells (sedA ak an nt nm) 60 (0, 0)) := by rw [← hW0]; exact heap_alloc_new w _
  obtain ⟨W4, hW4⟩ : ∃ W4, W0.drew = W4 := ⟨_, rfl⟩
  have b4 : Below W0.heap.size W0 W4 := by rw [← hW4]; exact (Below.refl _ _).drew
  have s4 : W4.heap.size = w.heap.size + 1 := by rw [← hW4]; exact s0
  have x4 : W4.heap[w.heap.size]? = some (.cells (sedA ak an nt nm) 60 (0, 0)) := kept b4 x0 (Nat.le_refl _)
  have xa : (W4.alloc (.cells #[.int .i64 0, .int .i64 0, .int .i64 0, .int .i64 0, .int .i64 0, .string ⟨#[]⟩, .slice none 0 0, .int .i64 0, .int .i64 0, .int .i64 0, .int .i64 0, .int .i64 0, .string ⟨#[]⟩, .slice none 0 0, .bool false, .string ⟨#[]⟩, .string ⟨#[]⟩, .int .i64 0, .int .i64 0, .int .i64 0, .string ⟨#[]⟩, .slice none 0 0, .bool false, .bool false, .int .i64 0, .int .i64 0] 60)).heap[w.heap.size + 1]? = some (.cells #[.int .i64 0, .int .i64 0, .int .i64 0, .int .i64 0, .int .i64 0, .string ⟨#[]⟩, .slice none 0 0, .int .i64 0, .int .i64 0, .int .i64 0, .int .i64 0, .int .i64 0, .string ⟨#[]⟩, .slice none 0 0, .bool false, .string ⟨#[]⟩, .string ⟨#[]⟩, .int .i64 0, .int .i64 0, .int .i64 0, .string ⟨#[]⟩, .slice none 0 0, .bool false, .bool false, .int .i64 0, .int .i64 0] 60 (0, 0)) := by rw [← s4]; exact heap_alloc_new W4 _
  have ba : Below W4.heap.size W4 (W4.alloc (.cells #[.int .i64 0, .int .i64 0, .int .i64 0, .int .i64 0, .int .i64 0, .string ⟨#[]⟩, .slice none 0 0, .int .i64 0, .int .i64 0, .int .i64 0, .int .i64 0, .int .i64 0, .string ⟨#[]⟩, .slice none 0 0, .bool false, .string ⟨#[]⟩, .string ⟨#[]⟩, .int .i64 0, .int .i64 0, .int .i64 0, .string ⟨#[]⟩, .slice none 0 0, .bool false, .bool false, .int .i64 0, .int .i64 0] 60)) := more (Below.refl _ _) _
  have x5 : (W4.alloc (.cells #[.int .i64 0, .int .i64 0, .int .i64 0, .int .i64 0, .int .i64 0, .string ⟨#[]⟩, .slice none 0 0, .int .i64 0, .int .i64 0, .int .i64 0, .int .i64 0, .int .i64 0, .string ⟨#[]⟩, .slice none 0 0, .bool false, .string ⟨#[]⟩, .string ⟨#[]⟩, .int .i64 0, .int .i64 0, .int .i64 0, .string ⟨#[]⟩, .slice none 0 0, .bool false, .bool false, .int .i64 0, .int .i64 0] 60)).heap[w.heap.size]? = some (.cells (sedA ak an nt nm) 60 (0, 0)) := kept ba x4 (Nat.le_refl _)
  have hst := run_storeCells_row (P := Tryz.prog) _ _ 60 _ (sedA ak an nt nm) xa rfl (one_sed _ _ _ _)
  have HW : Hid (∃ W5, (W4.alloc (.cells #[.int .i64 0, .int .i64 0, .int .i64 0, .int .i64 0, .int .i64 0, .string ⟨#[]⟩, .slice none 0 0, .int .i64 0, .int .i64 0, .int .i64 0, .int .i64 0, .int .i64 0, .string ⟨#[]⟩, .slice none 0 0, .bool false, .string ⟨#[]⟩, .string ⟨#[]⟩, .int .i64 0, .int .i64 0, .int .i64 0, .string ⟨#[]⟩, .slice none 0 0, .bool false, .bool false, .int .i64 0, .int .i64 0] 60)).setRow (w.heap.size + 1) (sedA ak an nt nm) = W5 ∧ (W5.cell? ⟨w.heap.size, 15, none⟩ = some (.string nm) ∧ W5.cell? ⟨w.heap.size, 16, none⟩ = some (.string ⟨#[]⟩)) ∧ (W5.cell? ⟨w.heap.size + 1, 16, none⟩ = some (.string ⟨#[]⟩) ∧ W5.cell? ⟨w.heap.size + 1, 17, none⟩ = some (.int .i64 0) ∧ W5.cell? ⟨w.heap.size + 1, 18, none⟩ = some (.int .i64 0) ∧ W5.cell? ⟨w.heap.size + 1, 19, none⟩ = some (.int .i64 0) ∧ W5.cell? ⟨w.heap.size + 1, 20, none⟩ = some (.string ⟨#[]⟩) ∧ W5.cell? ⟨w.heap.size + 1, 21, none⟩ = some (.slice none 0 0) ∧ W5.cell? ⟨w.heap.size + 1, 22, none⟩ = some (.bool false) ∧ W5.cell? ⟨w.heap.size + 1, 23, none⟩ = some (.bool false) ∧ W5.cell? ⟨w.heap.size + 1, 24, none⟩ = some (.int .i64 0) ∧ W5.cell? ⟨w.heap.size + 1, 25, none⟩ = some (.int .i64 0)) ∧ Hid (Calls Tryz.prog 55 #[.agg #[.int .i64 0, .int .i64 0, .int .i64 0, .string ⟨#[]⟩, .slice none 0 0]] W5 fun e w6 => e = .returned (.bool true) ∧ (w6.cell? ⟨w.heap.size + 1, 22, none⟩ = some (.bool false) ∧ w6.cell? ⟨w.heap.size + 1, 23, none⟩ = some (.bool false) ∧ w6.cell? ⟨w.heap.size + 1, 24, none⟩ = some (.int .i64 0) ∧ w6.cell? ⟨w.heap.size + 1, 25, none⟩ = some (.int .i64 0)) ∧ w6.cell? ⟨w.heap.size, 16, none⟩ = some (.string ⟨#[]⟩) ∧ Hid (w6.heap[w.heap.size]? = some (.cells (sedA ak an nt nm) 60 (0, 0))) ∧ Hid (Calls Tryz.prog 56 #[.agg (sedA ak an nt nm)] w6 fun e w7 => e = .returned (.bool true) ∧ Hid (Below w.heap.size w w7)))) := by
    have z0 : ((W4.alloc (.cells #[.int .i64 0, .int .i64 0, .int .i64 0, .int .i64 0, .int .i64 0, .string ⟨#[]⟩, .slice none 0 0, .int .i64 0, .int .i64 0, .int .i64 0, .int .i64 0, .int .i64 0, .string ⟨#[]⟩, .slice none 0 0, .bool false, .string ⟨#[]⟩, .string ⟨#[]⟩, .int .i64 0, .int .i64 0, .int .i64 0, .string ⟨#[]⟩, .slice none 0 0, .bool false, .bool false, .int .i64 0, .int .i64 0] 60)).setRow (w.heap.size + 1) (sedA ak an nt nm)).heap[w.heap.size]? = some (.cells (sedA ak an nt nm) 60 (0, 0)) := (setRow_other _ _ _ _ (by omega)).trans x5
    have z1 : ((W4.alloc (.cells #[.int .i64 0, .int .i64 0, .int .i64 0, .int .i64 0, .int .i64 0, .string ⟨#[]⟩, .slice none 0 0, .int .i64 0, .int .i64 0, .int .i64 0, .int .i64 0, .int .i64 0, .string ⟨#[]⟩, .slice none 0 0, .bool false, .string ⟨#[]⟩, .string ⟨#[]⟩, .int .i64 0, .int .i64 0, .int .i64 0, .string ⟨#[]⟩, .slice none 0 0, .bool false, .bool false, .int .i64 0, .int .i64 0] 60)).setRow (w.heap.size + 1) (sedA ak an nt nm)).heap[w.heap.size + 1]? = some (.cells (sedA ak an nt nm) 60 (0, 0)) := setRow_heap _ _ _ _ _ _ xa
    have bz : Below w.heap.size w ((W4.alloc (.cells #[.int .i64 0, .int .i64 0, .int .i64 0, .int .i64 0, .int .i64 0, .string ⟨#[]⟩, .slice none 0 0, .int .i64 0, .int .i64 0, .int .i64 0, .int .i64 0, .int .i64 0, .string ⟨#[]⟩, .slice none 0 0, .bool false, .string ⟨#[]⟩, .string ⟨#[]⟩, .int .i64 0, .int .i64 0, .int .i64 0, .string ⟨#[]⟩, .slice none 0 0, .bool false, .bool false, .int .i64 0, .int .i64 0] 60)).setRow (w.heap.size + 1) (sedA ak an nt nm)) := by
      have b := (b0.trans (b4.mono (by omega))).trans (ba.mono (by omega))
      exact ⟨b.os, b.tape, b.output, by simpa [World.setRow] using b.size, fun k hk => (setRow_other _ _ _ _ (by omega)).trans (b.block k hk)⟩
    obtain ⟨W5, hW5⟩ : ∃ W5, (W4.alloc (.cells #[.int .i64 0, .int .i64 0, .int .i64 0, .int .i64 0, .int .i64 0, .string ⟨#[]⟩, .slice none 0 0, .int .i64 0, .int .i64 0, .int .i64 0, .int .i64 0, .int .i64 0, .string ⟨#[]⟩, .slice none 0 0, .bool false, .string ⟨#[]⟩, .string ⟨#[]⟩, .int .i64 0, .int .i64 0, .int .i64 0, .string ⟨#[]⟩, .slice none 0 0, .bool false, .bool false, .int .i64 0, .int .i64 0] 60)).setRow (w.heap.size + 1) (sedA ak an nt nm) = W5 := ⟨_, rfl⟩
    rw [hW5] at z0 z1 bz
    refine ⟨W5, hW5, ⟨cell_of z0 rfl, cell_of z0 rfl⟩, ⟨cell_of z1 rfl, cell_of z1 rfl, cell_of z1 rfl, cell_of z1 rfl, cell_of z1 rfl, cell_of z1 rfl, cell_of z1 rfl, cell_of z1 rfl, cell_of z1 rfl, cell_of z1 rfl⟩, ?_⟩
    refine (noTree_any W5).mono ?_
    rintro e w6 ⟨rfl, b6⟩
    have y0 := kept b6 z0 (Nat.le_refl _)
    have y1 := kept b6 z1 (Nat.le_refl _)
    refine ⟨rfl, ⟨cell_of y1 rfl, cell_of y1 rfl, cell_of y1 rfl, cell_of y1 rfl⟩, cell_of y0 rfl, y0, ?_⟩
    refine (addressesOK_any w6 ak an nt nm h).mono ?_
    rintro e w7 ⟨rfl, b7⟩
    have := bz.size
    exact ⟨rfl, (bz.trans (b6.mono (by omega))).trans (b7.mono (by have := b6.size; omega))⟩
  have hmt := mt_empty
  have HX4 := hide x4
  have HX5 := hide x5
  have Hst := hide hst
  clear b0 x0 b4 x4 xa ba x5 hst hnm h s0
  go_enter Tryz.func35, Tryz.ntmps35
  go_wp2_with fail
  (try rw [hW0])
  refine wtl.WT.start (S := fun wx => wx.heap[w.heap.size]? = some (.cells (sedA ak an nt nm) 60 (0, 0))) (n := 3) (by kernel_rfl) (by rfl) ?_
  rw [hW4]
  clear hW4 hW0
  have hcs : (sedA ak an nt nm).size = 26 := rfl
  refine wtl.WT.branch (rs := [0, 1]) (by kernel_rfl) (by simp) (by decide) ?_
  intro i9 hi9
  rcases List.mem_cons.1 hi9 with rfl | hi9
  · refine wtl.op_step rfl (fun K hK => ?_)
    rw [if_pos (by rfl)]
    refine wp_load_row 60 _ rfl w.heap.size rfl 60 _ (0, 0) _ HX4.out Tryz.underlying60 rfl (size60 _ _ _ _) ?_
    refine hK.out _ _ HX4.out ?_
    clear hK K
    refine wtl.WT.branch (rs := [1]) (by kernel_rfl) (by simp) (by decide) ?_
    intro i9 hi9
    obtain rfl := List.mem_singleton.1 hi9
    refine wtl.op_step rfl (fun K hK => ?_)
    go_simp
    refine hK.out _ _ HX5.out ?_
    clear hK K
    refine wtl.WT.takeAt (i := 2) (v := ?_) (some 7) rfl rfl (by kernel_rfl) (fun _ _ _ h => h) (Or.inl ⟨by rfl, ?_⟩) HX5.out ?_
    rotate_left
    · intro wx hSw
      go_simp
      all_goals (with_reducible rfl)
    refine wtl.WT.last rfl (by kernel_rfl) (by kernel_rfl) (by kernel_rfl) (fun K hK => ?_)
    have hst := Hst.out
    go_simp
    refine hK.out _ _ ?_
    clear hK K hst
    obtain ⟨W5, hW5, ⟨c15, c16⟩, ⟨d16, d17, d18, d19, d20, d21, d22, d23, d24, d25⟩, HN⟩ := HW.out
    rw [hW5]
    clear HW HX4 HX5 Hst hW5
    go_wp2_with fail
    refine HN.out.mono ?_
    rintro e w6 ⟨rfl, ⟨g22, g23, g24, g25⟩, e16, HY, HM⟩
    clear HN
    go_wp2_with (first
      | (refine wpList_load_row_g (by rfl) _ _ rfl w.heap.size rfl 60 _ (0, 0) _ HY.out Tryz.underlying60 rfl (size60 _ _ _ _) ?_)
      | (go_at_call 56; refine HM.out.mono ?_; rintro e w7 ⟨rfl, HB⟩))
    go_ret
    exact ⟨rfl, HB.out⟩
  · obtain rfl := List.mem_singleton.1 hi9
    refine wtl.op_step rfl (fun K hK => ?_)
    go_simp
    refine hK.out _ _ HX5.out ?_
    clear hK K
    refine wtl.WT.takeAt (i := 2) (v := ?_) (some 7) rfl rfl (by kernel_rfl) (fun _ _ _ h => h) (Or.inl ⟨by rfl, ?_⟩) HX5.out ?_
    rotate_left
    · intro wx hSw
      go_simp
      all_goals (with_reducible rfl)
    refine wtl.WT.branch (rs := [0]) (by kernel_rfl) (by simp) (by decide) ?_
    intro i9 hi9
    obtain rfl := List.mem_singleton.1 hi9
    refine wtl.op_step rfl (fun K hK => ?_)
    rw [if_pos (by rfl)]
    refine wp_load_row 60 _ rfl w.heap.size rfl 60 _ (0, 0) _ HX5.out Tryz.underlying60 rfl (size60 _ _ _ _) ?_
    refine hK.out _ _ HX5.out ?_
    clear hK K
    refine wtl.WT.last rfl (by kernel_rfl) (by kernel_rfl) (by kernel_rfl) (fun K hK => ?_)
    have hst := Hst.out
    go_simp
    refine hK.out _ _ ?_
    clear hK K hst
    obtain ⟨W5, hW5, ⟨c15, c16⟩, ⟨d16, d17, d18, d19, d20, d21, d22, d23, d24, d25⟩, HN⟩ := HW.out
    rw [hW5]
    clear HW HX4 HX5 Hst hW5
    go_wp2_with fail
    refine HN.out.mono ?_
    rintro e w6 ⟨rfl, ⟨g22, g23, g24, g25⟩, e16, HY, HM⟩
    clear HN
    go_wp2_with (first
      | (refine wpList_load_row_g (by rfl) _ _ rfl w.heap.size rfl 60 _ (0, 0) _ HY.out Tryz.underlying60 rfl (size60 _ _ _ _) ?_)
      | (go_at_call 56; refine HM.out.mono ?_; rintro e w7 ⟨rfl, HB⟩))
    go_ret
    exact ⟨rfl, HB.out⟩
theorem ok_turn (c : Cm) (h : c ∈ [cmG, cmH, cmD]) : CmOK c := by
  simp only [List.mem_cons, List.not_mem_nil, or_false] at h
  rcases h with rfl | rfl | rfl
  · exact fun w i j => commandOK_G w 1 1 true (.inr (.inr ⟨rfl, by decide, by decide⟩)) i j
  · exact fun w i j => commandOK_h w 0 0 false (.inl ⟨rfl, rfl⟩) i j
  · exact fun w i j => commandOK_d w 2 0 true (.inr (.inl ⟨rfl, rfl⟩)) i j
end Go.Proofs.YtdhachmelgdknaaGreatDoor.chk
