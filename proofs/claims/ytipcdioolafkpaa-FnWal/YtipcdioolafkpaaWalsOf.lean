/- A drawn state of a log: what WalsOf answers. -/
import Derived.Test.YtipcdioolafkpaaWalDraw
import Derived.Test.YtipcdioolafkpaaWalLaw
namespace Go.Proofs.Ytipcdioolafkpaa.walsof
open Go.ChangeShapes Go.WideShapes Go.ChangeAt Go.RowKit
open Go.Proofs.Ytipcdioolafkpaa.bytes Go.Proofs.Ytipcdioolafkpaa.put Go.Proofs.Ytipcdioolafkpaa.pile Go.Proofs.Ytipcdioolafkpaa.join Go.Proofs.Ytipcdioolafkpaa.frames Go.Proofs.Ytipcdioolafkpaa.reader Go.Proofs.Ytipcdioolafkpaa.one Go.Proofs.Ytipcdioolafkpaa.many Go.Proofs.Ytipcdioolafkpaa.draws Go.Proofs.Ytipcdioolafkpaa.payloads Go.Proofs.Ytipcdioolafkpaa.bytefn
open Go.Proofs.Ytipcdioolafkpaa.drawsfn Go.Proofs.Ytipcdioolafkpaa.drawsex Go.Proofs.Ytipcdioolafkpaa.recrows Go.Proofs.Ytipcdioolafkpaa.rechelp Go.Proofs.Ytipcdioolafkpaa.pays Go.Proofs.Ytipcdioolafkpaa.recov Go.Proofs.Ytipcdioolafkpaa.fits Go.Proofs.Ytipcdioolafkpaa.goesalong Go.Proofs.Ytipcdioolafkpaa.logcells Go.Proofs.Ytipcdioolafkpaa.recoveri Go.Proofs.Ytipcdioolafkpaa.takesp Go.Proofs.Ytipcdioolafkpaa.waldraw Go.Proofs.Ytipcdioolafkpaa.wallaw
set_option linter.unusedVariables false

set_option maxRecDepth 20000 in
set_option maxHeartbeats 4000000 in
theorem wals_any (w : World) (ao : Option Addr) (cap : Nat) (xs : List Int) (h : RdA w (.slice ao xs.length cap) xs) :
    Calls Try.prog 31 #[.slice ao xs.length cap] w (WalsE w) := by
  obtain ⟨w0, hw0⟩ : ∃ w0, w0 = w.alloc (.cells #[.int .i64 0, .int .i64 0, .int .i64 0, .int .i64 0, .slice none 0 0, .int .i64 0] 52) := ⟨_, rfl⟩
  have b0 : Below w.heap.size w w0 := by rw [hw0]; exact (Below.refl _ _).alloc (Nat.le_refl _) _
  have k0 : w0.heap[w.heap.size]? = some (.cells #[.int .i64 0, .int .i64 0, .int .i64 0, .int .i64 0, .slice none 0 0, .int .i64 0] 52 (0, 0)) := by rw [hw0]; exact heap_alloc_new w _
  have s0 : w0.heap.size = w.heap.size + 1 := by rw [hw0]; simp
  have HS := source_any w0 ao cap xs (h.below b0 (Nat.le_refl _))
  rw [s0] at HS
  rw [hw0] at HS
  have HSh := hide HS
  clear h HS
  go_enter Try.func31, Try.ntmps31
  go_wp2_with fail
  refine HSh.out.mono ?_
  rw [← hw0]
  rintro e w1 ⟨rfl, hd1, B1, sd1, S1⟩
  have HW := hide (wal_any w1 _ ao cap xs sd1 S1)
  have k1 : w1.heap[w.heap.size]? = some (.cells #[.int .i64 0, .int .i64 0, .int .i64 0, .int .i64 0, .slice none 0 0, .int .i64 0] 52 (0, 0)) := (B1.block _ (by omega)).trans k0
  clear HSh hw0 S1
  go_wp2_with fail
  refine HW.out.mono ?_
  rintro e w2 ⟨T, V, o, n, c, rl, us, rfl, hT, hV, hl, hr, L2, G2, F2⟩
  have k2 : w2.heap[w.heap.size]? = some (.cells #[.int .i64 0, .int .i64 0, .int .i64 0, .int .i64 0, .slice none 0 0, .int .i64 0] 52 (0, 0)) := (G2.block _ (by omega) (by simp)).trans k1
  have B2 : Below w.heap.size w w2 := (b0.trans (B1.mono (by omega))).grown G2 (by have := B1.size; omega) (fun k hk => by simp only [Option.some.injEq] at hk; omega)
  have HF := hide (And.intro hr (And.intro L2 (And.intro B2 (F2 w.heap.size (by have := B1.size; omega)))))
  have HK := hide k2
  have fz := frozen_of k2
  have e0 : w2.cell? ⟨w.heap.size, 0, none⟩ = some (.int .i64 0) := cell_of k2 rfl
  have e1 : w2.cell? ⟨w.heap.size, 1, none⟩ = some (.int .i64 0) := cell_of k2 rfl
  have e2 : w2.cell? ⟨w.heap.size, 2, none⟩ = some (.int .i64 0) := cell_of k2 rfl
  have e3 : w2.cell? ⟨w.heap.size, 3, none⟩ = some (.int .i64 0) := cell_of k2 rfl
  have e4 : w2.cell? ⟨w.heap.size, 4, none⟩ = some (.slice none 0 0) := cell_of k2 rfl
  have e5 : w2.cell? ⟨w.heap.size, 5, none⟩ = some (.int .i64 0) := cell_of k2 rfl
  clear HW k0 k1 k2 b0 B1 G2 F2 L2 B2 hr
  go_wp2
  have HS6 := hide (six_sets HK.out (.int .i64 T) (.int .i64 V) (.int .i64 0) (.int .i64 0) (.slice o n c) (.int .i64 0))
  generalize ((((((w2.setCell ⟨w.heap.size, 0, none⟩ (.int .i64 T)).setCell ⟨w.heap.size, 1, none⟩ (.int .i64 V)).setCell ⟨w.heap.size, 2, none⟩ (.int .i64 0)).setCell ⟨w.heap.size, 3, none⟩ (.int .i64 0)).setCell ⟨w.heap.size, 4, none⟩ (.slice o n c)).setCell ⟨w.heap.size, 5, none⟩ (.int .i64 0)) = W6 at HS6 ⊢
  have g0 : W6.cell? ⟨w.heap.size, 0, none⟩ = some (.int .i64 T) := cell_of HS6.out.1 rfl
  have g1 : W6.cell? ⟨w.heap.size, 1, none⟩ = some (.int .i64 V) := cell_of HS6.out.1 rfl
  have g2 : W6.cell? ⟨w.heap.size, 2, none⟩ = some (.int .i64 0) := cell_of HS6.out.1 rfl
  have g3 : W6.cell? ⟨w.heap.size, 3, none⟩ = some (.int .i64 0) := cell_of HS6.out.1 rfl
  have g4 : W6.cell? ⟨w.heap.size, 4, none⟩ = some (.slice o n c) := cell_of HS6.out.1 rfl
  have g5 : W6.cell? ⟨w.heap.size, 5, none⟩ = some (.int .i64 0) := cell_of HS6.out.1 rfl
  exact bodyPost_ret (v := .agg #[.int .i64 T, .int .i64 V, .int .i64 0, .int .i64 0, .slice o n c, .int .i64 0]) (by simp [results, Try.results31, go_sem, g0, g1, g2, g3, g4, g5]) rfl ⟨T, V, o, n, c, rl, us, rfl, hT, hV, hl, fun k hk => HF.out.1 k hk, HF.out.2.1.grown HS6.out.2 HF.out.2.2.2, HF.out.2.2.1.grown HS6.out.2 (by have := HF.out.2.2.1.size; omega) (fun k hk => by simp only [Option.some.injEq] at hk; omega)⟩
end Go.Proofs.Ytipcdioolafkpaa.walsof
