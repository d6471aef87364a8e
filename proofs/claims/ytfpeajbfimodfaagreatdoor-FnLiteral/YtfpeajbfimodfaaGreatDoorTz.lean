/- The lowest place of a set of one. -/
import Derived.Test.YtfpeajbfimodfaaGreatDoorLast
namespace Go.Proofs.YtfpeajbfimodfaaGreatDoor.tz
open Go.ChangeShapes Go.WideShapes Go.ChangeAt Go.RowKit
open Go.Proofs.YtfpeajbfimodfaaGreatDoor.bytes Go.Proofs.YtfpeajbfimodfaaGreatDoor.places Go.Proofs.YtfpeajbfimodfaaGreatDoor.sets
set_option linter.unusedVariables false

def tabL : List Nat := [0, 1, 56, 2, 57, 49, 28, 3, 61, 58, 42, 50, 38, 29, 17, 4, 62, 47, 59, 36, 45, 43, 51, 22, 53, 39, 33, 30, 24, 18, 12, 5, 63, 55, 48, 27, 60, 41, 37, 16, 46, 35, 44, 21, 52, 32, 23, 11, 54, 26, 40, 15, 34, 20, 31, 10, 25, 14, 19, 9, 13, 8, 7, 6]
/-- The table of package math/bits lies in its block. -/
def TabIn (w : World) : Prop := ∀ j, j < 64 → w.cell? ⟨1, j, none⟩ = some (.int .u8 (tabL.getD j 0 : Nat))
theorem TabIn.below {w w' : World} {B : Nat} (h : TabIn w) (hb : Below B w w') (hB : 1 < B) : TabIn w' := fun j hj => (hb.cell hB).trans (h j hj)
set_option maxRecDepth 20000 in
set_option maxHeartbeats 4000000 in
theorem tz_any (w : World) (e : Nat) (he : e ≤ 22) (hT : TabIn w) :
    Calls Tryz.prog 79 #[.int .u64 ((2 ^ e : Nat) : Int)] w fun r w' => r = .returned (.int .i64 (e : Int)) ∧ w' = w := by
  rcases (show e = 0 ∨ e = 1 ∨ e = 2 ∨ e = 3 ∨ e = 4 ∨ e = 5 ∨ e = 6 ∨ e = 7 ∨ e = 8 ∨ e = 9 ∨ e = 10 ∨ e = 11 ∨ e = 12 ∨ e = 13 ∨ e = 14 ∨ e = 15 ∨ e = 16 ∨ e = 17 ∨ e = 18 ∨ e = 19 ∨ e = 20 ∨ e = 21 ∨ e = 22 by omega) with rfl | rfl | rfl | rfl | rfl | rfl | rfl | rfl | rfl | rfl | rfl | rfl | rfl | rfl | rfl | rfl | rfl | rfl | rfl | rfl | rfl | rfl | rfl
  · have hc : w.cell? ⟨1, 0, none⟩ = some (.int .u8 0) := hT 0 (by decide)
    clear hT
    have hv : bits .and .u64 1 (IntKind.u64.wrap (-1)) = 1 := by decide +kernel
    have hw : IntKind.u64.wrap 285870213051353865 = 285870213051353865 := by decide +kernel
    rw [show ((2 ^ 0 : Nat) : Int) = 1 by decide]
    go_enter Tryz.func79, Tryz.ntmps79
    go_wp2
    go_ret
    exact ⟨rfl, rfl⟩
  · have hc : w.cell? ⟨1, 1, none⟩ = some (.int .u8 1) := hT 1 (by decide)
    clear hT
    have hv : bits .and .u64 2 (IntKind.u64.wrap (-2)) = 2 := by decide +kernel
    have hw : IntKind.u64.wrap 571740426102707730 = 571740426102707730 := by decide +kernel
    rw [show ((2 ^ 1 : Nat) : Int) = 2 by decide]
    go_enter Tryz.func79, Tryz.ntmps79
    go_wp2
    go_ret
    exact ⟨rfl, rfl⟩
  · have hc : w.cell? ⟨1, 3, none⟩ = some (.int .u8 2) := hT 3 (by decide)
    clear hT
    have hv : bits .and .u64 4 (IntKind.u64.wrap (-4)) = 4 := by decide +kernel
    have hw : IntKind.u64.wrap 1143480852205415460 = 1143480852205415460 := by decide +kernel
    rw [show ((2 ^ 2 : Nat) : Int) = 4 by decide]
    go_enter Tryz.func79, Tryz.ntmps79
    go_wp2
    go_ret
    exact ⟨rfl, rfl⟩
  · have hc : w.cell? ⟨1, 7, none⟩ = some (.int .u8 3) := hT 7 (by decide)
    clear hT
    have hv : bits .and .u64 8 (IntKind.u64.wrap (-8)) = 8 := by decide +kernel
    have hw : IntKind.u64.wrap 2286961704410830920 = 2286961704410830920 := by decide +kernel
    rw [show ((2 ^ 3 : Nat) : Int) = 8 by decide]
    go_enter Tryz.func79, Tryz.ntmps79
    go_wp2
    go_ret
    exact ⟨rfl, rfl⟩
  · have hc : w.cell? ⟨1, 15, none⟩ = some (.int .u8 4) := hT 15 (by decide)
    clear hT
    have hv : bits .and .u64 16 (IntKind.u64.wrap (-16)) = 16 := by decide +kernel
    have hw : IntKind.u64.wrap 4573923408821661840 = 4573923408821661840 := by decide +kernel
    rw [show ((2 ^ 4 : Nat) : Int) = 16 by decide]
    go_enter Tryz.func79, Tryz.ntmps79
    go_wp2
    go_ret
    exact ⟨rfl, rfl⟩
  · have hc : w.cell? ⟨1, 31, none⟩ = some (.int .u8 5) := hT 31 (by decide)
    clear hT
    have hv : bits .and .u64 32 (IntKind.u64.wrap (-32)) = 32 := by decide +kernel
    have hw : IntKind.u64.wrap 9147846817643323680 = 9147846817643323680 := by decide +kernel
    rw [show ((2 ^ 5 : Nat) : Int) = 32 by decide]
    go_enter Tryz.func79, Tryz.ntmps79
    go_wp2
    go_ret
    exact ⟨rfl, rfl⟩
  · have hc : w.cell? ⟨1, 63, none⟩ = some (.int .u8 6) := hT 63 (by decide)
    clear hT
    have hv : bits .and .u64 64 (IntKind.u64.wrap (-64)) = 64 := by decide +kernel
    have hw : IntKind.u64.wrap 18295693635286647360 = 18295693635286647360 := by decide +kernel
    rw [show ((2 ^ 6 : Nat) : Int) = 64 by decide]
    go_enter Tryz.func79, Tryz.ntmps79
    go_wp2
    go_ret
    exact ⟨rfl, rfl⟩
  · have hc : w.cell? ⟨1, 62, none⟩ = some (.int .u8 7) := hT 62 (by decide)
    clear hT
    have hv : bits .and .u64 128 (IntKind.u64.wrap (-128)) = 128 := by decide +kernel
    have hw : IntKind.u64.wrap 36591387270573294720 = 18144643196863743104 := by decide +kernel
    rw [show ((2 ^ 7 : Nat) : Int) = 128 by decide]
    go_enter Tryz.func79, Tryz.ntmps79
    go_wp2
    go_ret
    exact ⟨rfl, rfl⟩
  · have hc : w.cell? ⟨1, 61, none⟩ = some (.int .u8 8) := hT 61 (by decide)
    clear hT
    have hv : bits .and .u64 256 (IntKind.u64.wrap (-256)) = 256 := by decide +kernel
    have hw : IntKind.u64.wrap 73182774541146589440 = 17842542320017934592 := by decide +kernel
    rw [show ((2 ^ 8 : Nat) : Int) = 256 by decide]
    go_enter Tryz.func79, Tryz.ntmps79
    go_wp2
    go_ret
    exact ⟨rfl, rfl⟩
  · have hc : w.cell? ⟨1, 59, none⟩ = some (.int .u8 9) := hT 59 (by decide)
    clear hT
    have hv : bits .and .u64 512 (IntKind.u64.wrap (-512)) = 512 := by decide +kernel
    have hw : IntKind.u64.wrap 146365549082293178880 = 17238340566326317568 := by decide +kernel
    rw [show ((2 ^ 9 : Nat) : Int) = 512 by decide]
    go_enter Tryz.func79, Tryz.ntmps79
    go_wp2
    go_ret
    exact ⟨rfl, rfl⟩
  · have hc : w.cell? ⟨1, 55, none⟩ = some (.int .u8 10) := hT 55 (by decide)
    clear hT
    have hv : bits .and .u64 1024 (IntKind.u64.wrap (-1024)) = 1024 := by decide +kernel
    have hw : IntKind.u64.wrap 292731098164586357760 = 16029937058943083520 := by decide +kernel
    rw [show ((2 ^ 10 : Nat) : Int) = 1024 by decide]
    go_enter Tryz.func79, Tryz.ntmps79
    go_wp2
    go_ret
    exact ⟨rfl, rfl⟩
  · have hc : w.cell? ⟨1, 47, none⟩ = some (.int .u8 11) := hT 47 (by decide)
    clear hT
    have hv : bits .and .u64 2048 (IntKind.u64.wrap (-2048)) = 2048 := by decide +kernel
    have hw : IntKind.u64.wrap 585462196329172715520 = 13613130044176615424 := by decide +kernel
    rw [show ((2 ^ 11 : Nat) : Int) = 2048 by decide]
    go_enter Tryz.func79, Tryz.ntmps79
    go_wp2
    go_ret
    exact ⟨rfl, rfl⟩
  · have hc : w.cell? ⟨1, 30, none⟩ = some (.int .u8 12) := hT 30 (by decide)
    clear hT
    have hv : bits .and .u64 4096 (IntKind.u64.wrap (-4096)) = 4096 := by decide +kernel
    have hw : IntKind.u64.wrap 1170924392658345431040 = 8779516014643679232 := by decide +kernel
    rw [show ((2 ^ 12 : Nat) : Int) = 4096 by decide]
    go_enter Tryz.func79, Tryz.ntmps79
    go_wp2
    go_ret
    exact ⟨rfl, rfl⟩
  · have hc : w.cell? ⟨1, 60, none⟩ = some (.int .u8 13) := hT 60 (by decide)
    clear hT
    have hv : bits .and .u64 8192 (IntKind.u64.wrap (-8192)) = 8192 := by decide +kernel
    have hw : IntKind.u64.wrap 2341848785316690862080 = 17559032029287358464 := by decide +kernel
    rw [show ((2 ^ 13 : Nat) : Int) = 8192 by decide]
    go_enter Tryz.func79, Tryz.ntmps79
    go_wp2
    go_ret
    exact ⟨rfl, rfl⟩
  · have hc : w.cell? ⟨1, 57, none⟩ = some (.int .u8 14) := hT 57 (by decide)
    clear hT
    have hv : bits .and .u64 16384 (IntKind.u64.wrap (-16384)) = 16384 := by decide +kernel
    have hw : IntKind.u64.wrap 4683697570633381724160 = 16671319984865165312 := by decide +kernel
    rw [show ((2 ^ 14 : Nat) : Int) = 16384 by decide]
    go_enter Tryz.func79, Tryz.ntmps79
    go_wp2
    go_ret
    exact ⟨rfl, rfl⟩
  · have hc : w.cell? ⟨1, 51, none⟩ = some (.int .u8 15) := hT 51 (by decide)
    clear hT
    have hv : bits .and .u64 32768 (IntKind.u64.wrap (-32768)) = 32768 := by decide +kernel
    have hw : IntKind.u64.wrap 9367395141266763448320 = 14895895896020779008 := by decide +kernel
    rw [show ((2 ^ 15 : Nat) : Int) = 32768 by decide]
    go_enter Tryz.func79, Tryz.ntmps79
    go_wp2
    go_ret
    exact ⟨rfl, rfl⟩
  · have hc : w.cell? ⟨1, 39, none⟩ = some (.int .u8 16) := hT 39 (by decide)
    clear hT
    have hv : bits .and .u64 65536 (IntKind.u64.wrap (-65536)) = 65536 := by decide +kernel
    have hw : IntKind.u64.wrap 18734790282533526896640 = 11345047718332006400 := by decide +kernel
    rw [show ((2 ^ 16 : Nat) : Int) = 65536 by decide]
    go_enter Tryz.func79, Tryz.ntmps79
    go_wp2
    go_ret
    exact ⟨rfl, rfl⟩
  · have hc : w.cell? ⟨1, 14, none⟩ = some (.int .u8 17) := hT 14 (by decide)
    clear hT
    have hv : bits .and .u64 131072 (IntKind.u64.wrap (-131072)) = 131072 := by decide +kernel
    have hw : IntKind.u64.wrap 37469580565067053793280 = 4243351362954461184 := by decide +kernel
    rw [show ((2 ^ 17 : Nat) : Int) = 131072 by decide]
    go_enter Tryz.func79, Tryz.ntmps79
    go_wp2
    go_ret
    exact ⟨rfl, rfl⟩
  · have hc : w.cell? ⟨1, 29, none⟩ = some (.int .u8 18) := hT 29 (by decide)
    clear hT
    have hv : bits .and .u64 262144 (IntKind.u64.wrap (-262144)) = 262144 := by decide +kernel
    have hw : IntKind.u64.wrap 74939161130134107586560 = 8486702725908922368 := by decide +kernel
    rw [show ((2 ^ 18 : Nat) : Int) = 262144 by decide]
    go_enter Tryz.func79, Tryz.ntmps79
    go_wp2
    go_ret
    exact ⟨rfl, rfl⟩
  · have hc : w.cell? ⟨1, 58, none⟩ = some (.int .u8 19) := hT 58 (by decide)
    clear hT
    have hv : bits .and .u64 524288 (IntKind.u64.wrap (-524288)) = 524288 := by decide +kernel
    have hw : IntKind.u64.wrap 149878322260268215173120 = 16973405451817844736 := by decide +kernel
    rw [show ((2 ^ 19 : Nat) : Int) = 524288 by decide]
    go_enter Tryz.func79, Tryz.ntmps79
    go_wp2
    go_ret
    exact ⟨rfl, rfl⟩
  · have hc : w.cell? ⟨1, 53, none⟩ = some (.int .u8 20) := hT 53 (by decide)
    clear hT
    have hv : bits .and .u64 1048576 (IntKind.u64.wrap (-1048576)) = 1048576 := by decide +kernel
    have hw : IntKind.u64.wrap 299756644520536430346240 = 15500066829926137856 := by decide +kernel
    rw [show ((2 ^ 20 : Nat) : Int) = 1048576 by decide]
    go_enter Tryz.func79, Tryz.ntmps79
    go_wp2
    go_ret
    exact ⟨rfl, rfl⟩
  · have hc : w.cell? ⟨1, 43, none⟩ = some (.int .u8 21) := hT 43 (by decide)
    clear hT
    have hv : bits .and .u64 2097152 (IntKind.u64.wrap (-2097152)) = 2097152 := by decide +kernel
    have hw : IntKind.u64.wrap 599513289041072860692480 = 12553389586142724096 := by decide +kernel
    rw [show ((2 ^ 21 : Nat) : Int) = 2097152 by decide]
    go_enter Tryz.func79, Tryz.ntmps79
    go_wp2
    go_ret
    exact ⟨rfl, rfl⟩
  · have hc : w.cell? ⟨1, 23, none⟩ = some (.int .u8 22) := hT 23 (by decide)
    clear hT
    have hv : bits .and .u64 4194304 (IntKind.u64.wrap (-4194304)) = 4194304 := by decide +kernel
    have hw : IntKind.u64.wrap 1199026578082145721384960 = 6660035098575896576 := by decide +kernel
    rw [show ((2 ^ 22 : Nat) : Int) = 4194304 by decide]
    go_enter Tryz.func79, Tryz.ntmps79
    go_wp2
    go_ret
    exact ⟨rfl, rfl⟩
end Go.Proofs.YtfpeajbfimodfaaGreatDoor.tz
