/- Whether a command has the line: one without addresses. -/
import Derived.Test.YtdhachmelgdknaaGreatDoorDop
namespace Go.Proofs.YtdhachmelgdknaaGreatDoor.run
open Go.ChangeShapes Go.WideShapes Go.ChangeAt Go.RowKit
open Go.Proofs.YtdhachmelgdknaaGreatDoor.bas Go.Proofs.YtdhachmelgdknaaGreatDoor.rdr Go.Proofs.YtdhachmelgdknaaGreatDoor.chk
set_option linter.unusedVariables false
set_option maxRecDepth 20000 in
set_option maxHeartbeats 3200000 in
theorem has_none {d : Nat} {w : World} {u : U} (h : RU w d u) (g cap n : Nat) (hls : u.ls = .slice (some ⟨g, 0, none⟩) n cap) (cs : List Cm) (hl : Lst w g cap cs) (k : Nat) (nt : Bool) (nm : ByteArray) (hc : cs[k]? = some ⟨0, 0, nt, nm⟩) (hk : k < n) (hn : n ≤ 60) :
    Calls Tryz.prog 96 #[.pointer (some ⟨d, 0, none⟩), .int .i64 k] w fun e w' => e = .returned (.bool true) ∧ Below w.heap.size w w' := by
  have c5 : w.cell? ⟨d, 5, none⟩ = some (.slice (some ⟨g, 0, none⟩) n cap) := by rw [h.c5, hls]
  have ca : ∀ o, (w.alloc o).cell? ⟨d, 5, none⟩ = some (.slice (some ⟨g, 0, none⟩) n cap) := fun o => cell_at (more (Below.refl _ _) o) c5 (Nat.le_refl _)
  have cb : ∀ o p, ((w.alloc o).alloc p).cell? ⟨d, 5, none⟩ = some (.slice (some ⟨g, 0, none⟩) n cap) := fun o p => cell_at (more (more (Below.refl _ _) o) p) c5 (Nat.le_refl _)
  have hR : w.rangeAt g (k * 26) (sedA 0 0 nt nm).toList := hl.at_ k _ hc
  have r0 : w.cell? ⟨g, k * 26, none⟩ = some (.int .i64 0) := hR 0 _ rfl
  have ra0 : ∀ o, (w.alloc o).cell? ⟨g, k * 26, none⟩ = some (.int .i64 0) := fun o => cell_at (more (Below.refl _ _) o) r0 (Nat.le_refl _)
  have rb0 : ∀ o p, ((w.alloc o).alloc p).cell? ⟨g, k * 26, none⟩ = some (.int .i64 0) := fun o p => cell_at (more (more (Below.refl _ _) o) p) r0 (Nat.le_refl _)
  have r1 : w.cell? ⟨g, k * 26 + 1, none⟩ = some (.int .i64 0) := hR 1 _ rfl
  have ra1 : ∀ o, (w.alloc o).cell? ⟨g, k * 26 + 1, none⟩ = some (.int .i64 0) := fun o => cell_at (more (Below.refl _ _) o) r1 (Nat.le_refl _)
  have rb1 : ∀ o p, ((w.alloc o).alloc p).cell? ⟨g, k * 26 + 1, none⟩ = some (.int .i64 0) := fun o p => cell_at (more (more (Below.refl _ _) o) p) r1 (Nat.le_refl _)
  have r2 : w.cell? ⟨g, k * 26 + 2, none⟩ = some (.int .i64 0) := hR 2 _ rfl
  have ra2 : ∀ o, (w.alloc o).cell? ⟨g, k * 26 + 2, none⟩ = some (.int .i64 0) := fun o => cell_at (more (Below.refl _ _) o) r2 (Nat.le_refl _)
  have rb2 : ∀ o p, ((w.alloc o).alloc p).cell? ⟨g, k * 26 + 2, none⟩ = some (.int .i64 0) := fun o p => cell_at (more (more (Below.refl _ _) o) p) r2 (Nat.le_refl _)
  have r3 : w.cell? ⟨g, k * 26 + 3, none⟩ = some (.int .i64 0) := hR 3 _ rfl
  have ra3 : ∀ o, (w.alloc o).cell? ⟨g, k * 26 + 3, none⟩ = some (.int .i64 0) := fun o => cell_at (more (Below.refl _ _) o) r3 (Nat.le_refl _)
  have rb3 : ∀ o p, ((w.alloc o).alloc p).cell? ⟨g, k * 26 + 3, none⟩ = some (.int .i64 0) := fun o p => cell_at (more (more (Below.refl _ _) o) p) r3 (Nat.le_refl _)
  have r4 : w.cell? ⟨g, k * 26 + 4, none⟩ = some (.int .i64 0) := hR 4 _ rfl
  have ra4 : ∀ o, (w.alloc o).cell? ⟨g, k * 26 + 4, none⟩ = some (.int .i64 0) := fun o => cell_at (more (Below.refl _ _) o) r4 (Nat.le_refl _)
  have rb4 : ∀ o p, ((w.alloc o).alloc p).cell? ⟨g, k * 26 + 4, none⟩ = some (.int .i64 0) := fun o p => cell_at (more (more (Below.refl _ _) o) p) r4 (Nat.le_refl _)
  have r5 : w.cell? ⟨g, k * 26 + 5, none⟩ = some (.string ⟨#[]⟩) := hR 5 _ rfl
  have ra5 : ∀ o, (w.alloc o).cell? ⟨g, k * 26 + 5, none⟩ = some (.string ⟨#[]⟩) := fun o => cell_at (more (Below.refl _ _) o) r5 (Nat.le_refl _)
  have rb5 : ∀ o p, ((w.alloc o).alloc p).cell? ⟨g, k * 26 + 5, none⟩ = some (.string ⟨#[]⟩) := fun o p => cell_at (more (more (Below.refl _ _) o) p) r5 (Nat.le_refl _)
  have r6 : w.cell? ⟨g, k * 26 + 6, none⟩ = some (.slice none 0 0) := hR 6 _ rfl
  have ra6 : ∀ o, (w.alloc o).cell? ⟨g, k * 26 + 6, none⟩ = some (.slice none 0 0) := fun o => cell_at (more (Below.refl _ _) o) r6 (Nat.le_refl _)
  have rb6 : ∀ o p, ((w.alloc o).alloc p).cell? ⟨g, k * 26 + 6, none⟩ = some (.slice none 0 0) := fun o p => cell_at (more (more (Below.refl _ _) o) p) r6 (Nat.le_refl _)
  have r7 : w.cell? ⟨g, k * 26 + 7, none⟩ = some (.int .i64 0) := hR 7 _ rfl
  have ra7 : ∀ o, (w.alloc o).cell? ⟨g, k * 26 + 7, none⟩ = some (.int .i64 0) := fun o => cell_at (more (Below.refl _ _) o) r7 (Nat.le_refl _)
  have rb7 : ∀ o p, ((w.alloc o).alloc p).cell? ⟨g, k * 26 + 7, none⟩ = some (.int .i64 0) := fun o p => cell_at (more (more (Below.refl _ _) o) p) r7 (Nat.le_refl _)
  have r8 : w.cell? ⟨g, k * 26 + 8, none⟩ = some (.int .i64 0) := hR 8 _ rfl
  have ra8 : ∀ o, (w.alloc o).cell? ⟨g, k * 26 + 8, none⟩ = some (.int .i64 0) := fun o => cell_at (more (Below.refl _ _) o) r8 (Nat.le_refl _)
  have rb8 : ∀ o p, ((w.alloc o).alloc p).cell? ⟨g, k * 26 + 8, none⟩ = some (.int .i64 0) := fun o p => cell_at (more (more (Below.refl _ _) o) p) r8 (Nat.le_refl _)
  have r9 : w.cell? ⟨g, k * 26 + 9, none⟩ = some (.int .i64 0) := hR 9 _ rfl
  have ra9 : ∀ o, (w.alloc o).cell? ⟨g, k * 26 + 9, none⟩ = some (.int .i64 0) := fun o => cell_at (more (Below.refl _ _) o) r9 (Nat.le_refl _)
  have rb9 : ∀ o p, ((w.alloc o).alloc p).cell? ⟨g, k * 26 + 9, none⟩ = some (.int .i64 0) := fun o p => cell_at (more (more (Below.refl _ _) o) p) r9 (Nat.le_refl _)
  have r10 : w.cell? ⟨g, k * 26 + 10, none⟩ = some (.int .i64 0) := hR 10 _ rfl
  have ra10 : ∀ o, (w.alloc o).cell? ⟨g, k * 26 + 10, none⟩ = some (.int .i64 0) := fun o => cell_at (more (Below.refl _ _) o) r10 (Nat.le_refl _)
  have rb10 : ∀ o p, ((w.alloc o).alloc p).cell? ⟨g, k * 26 + 10, none⟩ = some (.int .i64 0) := fun o p => cell_at (more (more (Below.refl _ _) o) p) r10 (Nat.le_refl _)
  have r11 : w.cell? ⟨g, k * 26 + 11, none⟩ = some (.int .i64 0) := hR 11 _ rfl
  have ra11 : ∀ o, (w.alloc o).cell? ⟨g, k * 26 + 11, none⟩ = some (.int .i64 0) := fun o => cell_at (more (Below.refl _ _) o) r11 (Nat.le_refl _)
  have rb11 : ∀ o p, ((w.alloc o).alloc p).cell? ⟨g, k * 26 + 11, none⟩ = some (.int .i64 0) := fun o p => cell_at (more (more (Below.refl _ _) o) p) r11 (Nat.le_refl _)
  have r12 : w.cell? ⟨g, k * 26 + 12, none⟩ = some (.string ⟨#[]⟩) := hR 12 _ rfl
  have ra12 : ∀ o, (w.alloc o).cell? ⟨g, k * 26 + 12, none⟩ = some (.string ⟨#[]⟩) := fun o => cell_at (more (Below.refl _ _) o) r12 (Nat.le_refl _)
  have rb12 : ∀ o p, ((w.alloc o).alloc p).cell? ⟨g, k * 26 + 12, none⟩ = some (.string ⟨#[]⟩) := fun o p => cell_at (more (more (Below.refl _ _) o) p) r12 (Nat.le_refl _)
  have r13 : w.cell? ⟨g, k * 26 + 13, none⟩ = some (.slice none 0 0) := hR 13 _ rfl
  have ra13 : ∀ o, (w.alloc o).cell? ⟨g, k * 26 + 13, none⟩ = some (.slice none 0 0) := fun o => cell_at (more (Below.refl _ _) o) r13 (Nat.le_refl _)
  have rb13 : ∀ o p, ((w.alloc o).alloc p).cell? ⟨g, k * 26 + 13, none⟩ = some (.slice none 0 0) := fun o p => cell_at (more (more (Below.refl _ _) o) p) r13 (Nat.le_refl _)
  have HB : Hid (∀ o p, Below w.heap.size w ((w.alloc o).alloc p).drew) := fun o p => (more (more (Below.refl _ _) o) p).drew
  have hkI : (k : Int) < (n : Int) := by omega
  clear h hl hc hR hls
  go_enter Tryz.func96, Tryz.ntmps96
  go_wp2
  go_region
  all_goals
    go_wp2
    go_ret
    exact ⟨rfl, HB.out _ _⟩
end Go.Proofs.YtdhachmelgdknaaGreatDoor.run
