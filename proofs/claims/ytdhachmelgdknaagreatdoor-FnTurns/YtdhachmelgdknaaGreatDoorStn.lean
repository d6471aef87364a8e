/- Whether an address has the line; a command with one address. -/
import Derived.Test.YtdhachmelgdknaaGreatDoorHas
namespace Go.Proofs.YtdhachmelgdknaaGreatDoor.run
open Go.ChangeShapes Go.WideShapes Go.ChangeAt Go.RowKit
open Go.Proofs.YtdhachmelgdknaaGreatDoor.bas Go.Proofs.YtdhachmelgdknaaGreatDoor.rdr Go.Proofs.YtdhachmelgdknaaGreatDoor.chk
set_option linter.unusedVariables false
set_option maxHeartbeats 1600000 in
theorem stands_line {d : Nat} {w : World} {u : U} (h : RU w d u) (an : Int) :
    Calls Tryz.prog 126 #[.pointer (some ⟨d, 0, none⟩), .agg #[.int .i64 1, .int .i64 an, .int .i64 0, .int .i64 0, .int .i64 0, .string ⟨#[]⟩, .slice none 0 0]] w fun e w' => e = .returned (.bool (decide ((u.num : Int) = an))) ∧ Below w.heap.size w w' := by
  obtain ⟨W0, hW0⟩ : ∃ W0, w.alloc (.cells #[.int .i64 1, .int .i64 an, .int .i64 0, .int .i64 0, .int .i64 0, .string ⟨#[]⟩, .slice none 0 0] 58) = W0 := ⟨_, rfl⟩
  have b0 : Below w.heap.size w W0 := by rw [← hW0]; exact more (Below.refl _ _) _
  have x0 : W0.heap[w.heap.size]? = some (.cells #[.int .i64 1, .int .i64 an, .int .i64 0, .int .i64 0, .int .i64 0, .string ⟨#[]⟩, .slice none 0 0] 58 (0, 0)) := by rw [← hW0]; exact heap_alloc_new w _
  have c0 : W0.cell? ⟨w.heap.size, 0, none⟩ = some (.int .i64 1) := cell_of x0 rfl
  have c1 : W0.cell? ⟨w.heap.size, 1, none⟩ = some (.int .i64 an) := cell_of x0 rfl
  have c8 := (h.below b0).c8
  have hb : ((u.num : Int) == an) = decide ((u.num : Int) = an) := by
    by_cases e : (u.num : Int) = an
    · rw [decide_eq_true e, beq_iff_eq]; exact e
    · rw [decide_eq_false e, beq_eq_false_iff_ne]; exact e
  obtain ⟨b, eb⟩ : ∃ b, decide ((u.num : Int) = an) = b := ⟨_, rfl⟩
  rw [eb] at hb ⊢
  obtain ⟨k, ek⟩ : ∃ k, u.num = k := ⟨_, rfl⟩
  rw [ek] at hb c8
  have HB : Hid (∀ n, Below w.heap.size w (W0.drewN n)) := fun n => below_drewN b0 n
  clear h eb ek b0 x0
  go_enter Tryz.func126, Tryz.ntmps126
  go_wp2
  (try rw [hW0])
  go_quiet (fail)
  go_wp2
  go_ret
  exact ⟨rfl, HB.out _⟩
set_option maxHeartbeats 1600000 in
theorem stands_last {d : Nat} {w : World} {u : U} (h : RU w d u) (lo : Option Addr) (n lc : Nat) (hl : u.ln = .slice lo n lc) (hn : u.num ≤ n) (hn2 : n ≤ 1000) :
    Calls Tryz.prog 126 #[.pointer (some ⟨d, 0, none⟩), .agg #[.int .i64 2, .int .i64 0, .int .i64 0, .int .i64 0, .int .i64 0, .string ⟨#[]⟩, .slice none 0 0]] w fun e w' => e = .returned (.bool (decide (u.num = n))) ∧ Below w.heap.size w w' := by
  obtain ⟨W0, hW0⟩ : ∃ W0, w.alloc (.cells #[.int .i64 2, .int .i64 0, .int .i64 0, .int .i64 0, .int .i64 0, .string ⟨#[]⟩, .slice none 0 0] 58) = W0 := ⟨_, rfl⟩
  have b0 : Below w.heap.size w W0 := by rw [← hW0]; exact more (Below.refl _ _) _
  have x0 : W0.heap[w.heap.size]? = some (.cells #[.int .i64 2, .int .i64 0, .int .i64 0, .int .i64 0, .int .i64 0, .string ⟨#[]⟩, .slice none 0 0] 58 (0, 0)) := by rw [← hW0]; exact heap_alloc_new w _
  have c0 : W0.cell? ⟨w.heap.size, 0, none⟩ = some (.int .i64 2) := cell_of x0 rfl
  have HL := last_any (h.below b0) lo n lc hl hn hn2
  obtain ⟨b, eb⟩ : ∃ b, decide (u.num = n) = b := ⟨_, rfl⟩
  rw [eb] at HL ⊢
  have HL := hide HL
  have HB : Hid (∀ n, Below w.heap.size w (W0.drewN n)) := fun n => below_drewN b0 n
  clear h eb b0 x0
  go_enter Tryz.func126, Tryz.ntmps126
  go_wp2_with fail
  (try rw [hW0])
  refine HL.out.mono ?_
  rintro e w1 ⟨rfl, q, rfl⟩
  clear HL hW0
  go_wp2
  go_ret
  exact ⟨rfl, HB.out _⟩
set_option maxRecDepth 20000 in
set_option maxHeartbeats 3200000 in
theorem has_one {d : Nat} {w : World} {u : U} (h : RU w d u) (g cap n : Nat) (hls : u.ls = .slice (some ⟨g, 0, none⟩) n cap) (cs : List Cm) (hl : Lst w g cap cs) (k : Nat) (ak an : Int) (nt : Bool) (nm : ByteArray) (hc : cs[k]? = some ⟨ak, an, nt, nm⟩) (hk : k < n) (hn : n ≤ 60) (h0 : (ak == 0) = false) (b : Bool)
    (HS : Hid (∀ wx, Below w.heap.size w wx → Calls Tryz.prog 126 #[.pointer (some ⟨d, 0, none⟩), .agg #[.int .i64 ak, .int .i64 an, .int .i64 0, .int .i64 0, .int .i64 0, .string ⟨#[]⟩, .slice none 0 0]] wx fun e w' => e = .returned (.bool b) ∧ Below wx.heap.size wx w')) :
    Calls Tryz.prog 96 #[.pointer (some ⟨d, 0, none⟩), .int .i64 k] w fun e w' => e = .returned (.bool b) ∧ Below w.heap.size w w' := by
  have c5 : w.cell? ⟨d, 5, none⟩ = some (.slice (some ⟨g, 0, none⟩) n cap) := by rw [h.c5, hls]
  have ca : ∀ o, (w.alloc o).cell? ⟨d, 5, none⟩ = some (.slice (some ⟨g, 0, none⟩) n cap) := fun o => cell_at (more (Below.refl _ _) o) c5 (Nat.le_refl _)
  have cb : ∀ o p, ((w.alloc o).alloc p).cell? ⟨d, 5, none⟩ = some (.slice (some ⟨g, 0, none⟩) n cap) := fun o p => cell_at (more (more (Below.refl _ _) o) p) c5 (Nat.le_refl _)
  have hR : w.rangeAt g (k * 26) (sedA ak an nt nm).toList := hl.at_ k _ hc
  have r0 : w.cell? ⟨g, k * 26, none⟩ = some (.int .i64 ak) := hR 0 _ rfl
  have ra0 : ∀ o, (w.alloc o).cell? ⟨g, k * 26, none⟩ = some (.int .i64 ak) := fun o => cell_at (more (Below.refl _ _) o) r0 (Nat.le_refl _)
  have rb0 : ∀ o p, ((w.alloc o).alloc p).cell? ⟨g, k * 26, none⟩ = some (.int .i64 ak) := fun o p => cell_at (more (more (Below.refl _ _) o) p) r0 (Nat.le_refl _)
  have r1 : w.cell? ⟨g, k * 26 + 1, none⟩ = some (.int .i64 an) := hR 1 _ rfl
  have ra1 : ∀ o, (w.alloc o).cell? ⟨g, k * 26 + 1, none⟩ = some (.int .i64 an) := fun o => cell_at (more (Below.refl _ _) o) r1 (Nat.le_refl _)
  have rb1 : ∀ o p, ((w.alloc o).alloc p).cell? ⟨g, k * 26 + 1, none⟩ = some (.int .i64 an) := fun o p => cell_at (more (more (Below.refl _ _) o) p) r1 (Nat.le_refl _)
  have r2 : w.cell? ⟨g, k * 26 + 2, none⟩ = some (.int .i64 0) := hR 2 _ rfl
  have ra2 : ∀ o, (w.alloc o).cell? ⟨g, k * 26 + 2, none⟩ = some (.int .i64 0) := fun o => cell_at (more (Below.refl _ _) o) r2 (Nat.le_refl _)
  have rb2 : ∀ o p, ((w.alloc o).alloc p).cell? ⟨g, k * 26 + 2, none⟩ = some (.int .i64 0) := fun o p => cell_at (more (more (Below.refl _ _) o) p) r2 (Nat.le_refl _)
  have r3 : w.cell? ⟨g, k * 26 + 3, none⟩ = some (.int .i64 0) := hR 3 _ rfl
  have ra3 : ∀ o, (w.alloc o).cell? ⟨g, k * 26 + 3, none⟩ = some (.int .i64 0) := fun o => cell_at (more (Below.refl _ _) o) r3 (Nat.le_refl _)
  have rb3 : ∀ o p, ((w.alloc o).alloc p).cell? ⟨g, k * 26 + 3, none⟩ = some (.int .i64 0) := fun o p => cell_at (more (more (Below.refl _ _) o) p) r3 (Nat.le_refl _)
  have r4 : w.cell? ⟨g, k * 26 + 4, none⟩ = some (.int .i64 0) := hR 4 _ rfl
  have ra4 : ∀ o, (w.alloc o).cell? ⟨g, k * 26 + 4, none⟩ = some (.int .i64 0) := fun o => cell_at (more (Below.refl _ _) o) r4 (Nat.le_refl _)
  have rb4 : ∀ o p, ((w.alloc o).alloc p).cell? ⟨g, k * 26 + 4, none⟩ = some (.int .i64 0) := fun o p => cell_at (more (more (Below.refl _ _) o) p) r4 (Nat.le_refl _)
  have r5 : w.cell? ⟨g, k * 26 + 5, none⟩ = some (.string ⟨#[]⟩) := hR 5 _ rfl
  have ra5 : ∀ o, (w.alloc o).cell? ⟨g, k * 26 + 5, none⟩ = some (.string ⟨#[]⟩) := fun o => cell_at (more (Below.refl _ _) o) r5 (Nat.le_refl _)
  have rb5 : ∀ o p, ((w.alloc o).alloc p).cell? ⟨g, k * 26 + 5, none⟩ = some (.string ⟨#[]⟩) := fun o p => cell_at (more (more (Below.refl _ _) o) p) r5 (Nat.le_refl _)
  have r6 : w.cell? ⟨g, k * 26 + 6, none⟩ = some (.slice none 0 0) := hR 6 _ rfl
  have ra6 : ∀ o, (w.alloc o).cell? ⟨g, k * 26 + 6, none⟩ = some (.slice none 0 0) := fun o => cell_at (more (Below.refl _ _) o) r6 (Nat.le_refl _)
  have rb6 : ∀ o p, ((w.alloc o).alloc p).cell? ⟨g, k * 26 + 6, none⟩ = some (.slice none 0 0) := fun o p => cell_at (more (more (Below.refl _ _) o) p) r6 (Nat.le_refl _)
  have r7 : w.cell? ⟨g, k * 26 + 7, none⟩ = some (.int .i64 0) := hR 7 _ rfl
  have ra7 : ∀ o, (w.alloc o).cell? ⟨g, k * 26 + 7, none⟩ = some (.int .i64 0) := fun o => cell_at (more (Below.refl _ _) o) r7 (Nat.le_refl _)
  have rb7 : ∀ o p, ((w.alloc o).alloc p).cell? ⟨g, k * 26 + 7, none⟩ = some (.int .i64 0) := fun o p => cell_at (more (more (Below.refl _ _) o) p) r7 (Nat.le_refl _)
  have r8 : w.cell? ⟨g, k * 26 + 8, none⟩ = some (.int .i64 0) := hR 8 _ rfl
  have ra8 : ∀ o, (w.alloc o).cell? ⟨g, k * 26 + 8, none⟩ = some (.int .i64 0) := fun o => cell_at (more (Below.refl _ _) o) r8 (Nat.le_refl _)
  have rb8 : ∀ o p, ((w.alloc o).alloc p).cell? ⟨g, k * 26 + 8, none⟩ = some (.int .i64 0) := fun o p => cell_at (more (more (Below.refl _ _) o) p) r8 (Nat.le_refl _)
  have r9 : w.cell? ⟨g, k * 26 + 9, none⟩ = some (.int .i64 0) := hR 9 _ rfl
  have ra9 : ∀ o, (w.alloc o).cell? ⟨g, k * 26 + 9, none⟩ = some (.int .i64 0) := fun o => cell_at (more (Below.refl _ _) o) r9 (Nat.le_refl _)
  have rb9 : ∀ o p, ((w.alloc o).alloc p).cell? ⟨g, k * 26 + 9, none⟩ = some (.int .i64 0) := fun o p => cell_at (more (more (Below.refl _ _) o) p) r9 (Nat.le_refl _)
  have r10 : w.cell? ⟨g, k * 26 + 10, none⟩ = some (.int .i64 0) := hR 10 _ rfl
  have ra10 : ∀ o, (w.alloc o).cell? ⟨g, k * 26 + 10, none⟩ = some (.int .i64 0) := fun o => cell_at (more (Below.refl _ _) o) r10 (Nat.le_refl _)
  have rb10 : ∀ o p, ((w.alloc o).alloc p).cell? ⟨g, k * 26 + 10, none⟩ = some (.int .i64 0) := fun o p => cell_at (more (more (Below.refl _ _) o) p) r10 (Nat.le_refl _)
  have r11 : w.cell? ⟨g, k * 26 + 11, none⟩ = some (.int .i64 0) := hR 11 _ rfl
  have ra11 : ∀ o, (w.alloc o).cell? ⟨g, k * 26 + 11, none⟩ = some (.int .i64 0) := fun o => cell_at (more (Below.refl _ _) o) r11 (Nat.le_refl _)
  have rb11 : ∀ o p, ((w.alloc o).alloc p).cell? ⟨g, k * 26 + 11, none⟩ = some (.int .i64 0) := fun o p => cell_at (more (more (Below.refl _ _) o) p) r11 (Nat.le_refl _)
  have r12 : w.cell? ⟨g, k * 26 + 12, none⟩ = some (.string ⟨#[]⟩) := hR 12 _ rfl
  have ra12 : ∀ o, (w.alloc o).cell? ⟨g, k * 26 + 12, none⟩ = some (.string ⟨#[]⟩) := fun o => cell_at (more (Below.refl _ _) o) r12 (Nat.le_refl _)
  have rb12 : ∀ o p, ((w.alloc o).alloc p).cell? ⟨g, k * 26 + 12, none⟩ = some (.string ⟨#[]⟩) := fun o p => cell_at (more (more (Below.refl _ _) o) p) r12 (Nat.le_refl _)
  have r13 : w.cell? ⟨g, k * 26 + 13, none⟩ = some (.slice none 0 0) := hR 13 _ rfl
  have ra13 : ∀ o, (w.alloc o).cell? ⟨g, k * 26 + 13, none⟩ = some (.slice none 0 0) := fun o => cell_at (more (Below.refl _ _) o) r13 (Nat.le_refl _)
  have rb13 : ∀ o p, ((w.alloc o).alloc p).cell? ⟨g, k * 26 + 13, none⟩ = some (.slice none 0 0) := fun o p => cell_at (more (more (Below.refl _ _) o) p) r13 (Nat.le_refl _)
  have HB : Hid (∀ o p, Below w.heap.size w ((w.alloc o).alloc p).drew) := fun o p => (more (more (Below.refl _ _) o) p).drew
  have hkI : (k : Int) < (n : Int) := by omega
  clear h hl hc hR hls
  go_enter Tryz.func96, Tryz.ntmps96
  go_wp2
  go_region
  all_goals
    go_wp2_with fail
    refine (HS.out _ (HB.out _ _)).mono ?_
    rintro e w5 ⟨rfl, b5⟩
    have HB5 := hide ((HB.out _ _).trans (b5.mono (HB.out _ _).size))
    clear b5
    go_wp2
    go_ret
    exact ⟨rfl, HB5.out⟩
end Go.Proofs.YtdhachmelgdknaaGreatDoor.run
