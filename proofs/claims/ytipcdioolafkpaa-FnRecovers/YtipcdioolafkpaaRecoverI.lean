/- The program's Recover: what it answers. -/
import Derived.Test.YtipcdioolafkpaaRecovers
namespace Go.Proofs.Ytipcdioolafkpaa.recoveri
open Go.ChangeShapes Go.WideShapes Go.ChangeAt Go.RowKit
open Go.Proofs.Ytipcdioolafkpaa.bytes Go.Proofs.Ytipcdioolafkpaa.pile Go.Proofs.Ytipcdioolafkpaa.put Go.Proofs.Ytipcdioolafkpaa.crcs Go.Proofs.Ytipcdioolafkpaa.join Go.Proofs.Ytipcdioolafkpaa.frames Go.Proofs.Ytipcdioolafkpaa.get Go.Proofs.Ytipcdioolafkpaa.dec Go.Proofs.Ytipcdioolafkpaa.take Go.Proofs.Ytipcdioolafkpaa.one Go.Proofs.Ytipcdioolafkpaa.votes Go.Proofs.Ytipcdioolafkpaa.pays Go.Proofs.Ytipcdioolafkpaa.rechelp Go.Proofs.Ytipcdioolafkpaa.recrows Go.Proofs.Ytipcdioolafkpaa.recov Go.Proofs.Ytipcdioolafkpaa.fits Go.Proofs.Ytipcdioolafkpaa.logput Go.Proofs.Ytipcdioolafkpaa.fite Go.Proofs.Ytipcdioolafkpaa.readrec Go.Proofs.Ytipcdioolafkpaa.readrecord Go.Proofs.Ytipcdioolafkpaa.goesalong Go.Proofs.Ytipcdioolafkpaa.recovers
set_option linter.unusedVariables false

/-- The state that begins. -/
def zSt : St := ⟨0, 0, 0, 0, []⟩
/-- What is recovered of bytes: the state, how many bytes made it, the code. -/
def recA (xs : List Int) : St × Nat × Int := if 65536 < xs.length then (zSt, 0, 2) else ((recL xs (xs.length + 1) zSt 0).1, (recL xs (xs.length + 1) zSt 0).2, 0)
/-- What Recover answers. -/
def RecE (w : World) (R : St × Nat × Int) (e : Ending) (w' : World) : Prop := ∃ lv us, e = .returned (.tuple #[.agg #[.int .i64 R.1.term, .int .i64 R.1.vote, .int .i64 R.1.base, .int .i64 R.1.bterm, lv, .int .i64 (R.2.1 : Nat)], .int .i64 R.2.2]) ∧ OwnRecs w' w.heap.size lv R.1.log us ∧ Below w.heap.size w w'
theorem ownrecs_low {w : World} {B B' : Nat} {v : Value} {rl : List Rec3} {us : List Value} (h : OwnRecs w B v rl us) (hb : B' ≤ B) : OwnRecs w B' v rl us := h.mono hb

theorem six_sets {w : World} {b t : Nat} {x0 x1 x2 x3 x4 x5 : Value} (h : w.heap[b]? = some (.cells #[x0, x1, x2, x3, x4, x5] t (0, 0))) (y0 y1 y2 y3 y4 y5 : Value) :
    ((((((w.setCell ⟨b, 0, none⟩ y0).setCell ⟨b, 1, none⟩ y1).setCell ⟨b, 2, none⟩ y2).setCell ⟨b, 3, none⟩ y3).setCell ⟨b, 4, none⟩ y4).setCell ⟨b, 5, none⟩ y5).heap[b]? = some (.cells #[y0, y1, y2, y3, y4, y5] t (0, 0)) ∧
    w.grownBy ((((((w.setCell ⟨b, 0, none⟩ y0).setCell ⟨b, 1, none⟩ y1).setCell ⟨b, 2, none⟩ y2).setCell ⟨b, 3, none⟩ y3).setCell ⟨b, 4, none⟩ y4).setCell ⟨b, 5, none⟩ y5) (some b) :=
  ⟨set_at (set_at (set_at (set_at (set_at (set_at h 0 y0 rfl) 1 y1 rfl) 2 y2 rfl) 3 y3 rfl) 4 y4 rfl) 5 y5 rfl,
   grown_trans (grown_trans (grown_trans (grown_trans (grown_trans (set_grown _ _ _ _) (set_grown _ _ _ _)) (set_grown _ _ _ _)) (set_grown _ _ _ _)) (set_grown _ _ _ _)) (set_grown _ _ _ _)⟩

set_option maxHeartbeats 4000000 in
theorem recover_any (w : World) (ao : Option Addr) (cap : Nat) (xs : List Int) (h : RdA w (.slice ao xs.length cap) xs) :
    Calls Try.prog 28 #[.slice ao xs.length cap] w (RecE w (recA xs)) := by
  obtain ⟨_, hc1, hc2⟩ := le_cap h.1
  unfold maxLen at hc2
  by_cases hl : 65536 < xs.length
  · have HE : Hid (recA xs = (zSt, 0, 2)) := by unfold Hid recA; rw [if_pos hl]
    rw [HE.out]
    have hli : (65536 : Int) < xs.length := by omega
    have HB : Hid (∀ o, Below w.heap.size w (w.alloc o)) := fun o => (Below.refl _ _).alloc (Nat.le_refl _) _
    clear h HE
    go_enter Try.func28, Try.ntmps28
    go_wp2
    exact bodyPost_ret (v := .tuple #[.agg #[.int .i64 0, .int .i64 0, .int .i64 0, .int .i64 0, .slice none 0 0, .int .i64 0], .int .i64 2]) (by simp [results, Try.results28, go_sem]) rfl ⟨_, [], rfl, OwnRecs.none _ _ _, HB.out _⟩
  · have hle : xs.length ≤ 65536 := by omega
    obtain ⟨R, hR⟩ : ∃ R, recL xs (xs.length + 1) zSt 0 = R := ⟨_, rfl⟩
    have HE : Hid (recA xs = (R.1, R.2, 0)) := by unfold Hid recA; rw [if_neg hl, hR]
    obtain ⟨w0, hw0⟩ : ∃ w0, w0 = w.alloc (.cells #[.int .i64 0, .int .i64 0, .int .i64 0, .int .i64 0, .slice none 0 0, .int .i64 0] 52) := ⟨_, rfl⟩
    have hs0 : w0.heap.size = w.heap.size + 1 := by rw [hw0]; simp
    have hk0 : w0.heap[w.heap.size]? = some (.cells #[.int .i64 0, .int .i64 0, .int .i64 0, .int .i64 0, .slice none 0 0, .int .i64 0] 52 (0, 0)) := by rw [hw0]; exact heap_alloc_new w _
    have b0 : Below w.heap.size w w0 := by rw [hw0]; exact (Below.refl _ _).alloc (Nat.le_refl _) _
    have hG : RG w0 (w0.alloc (.cells #[.slice ao xs.length cap, .int .i64 0, .int .i64 0, .int .i64 0, .int .i64 0, .int .i64 0, .slice none 0 0, .int .i64 0] 86)) (w0.heap.size + 1) w0.heap.size ao cap xs zSt 0 0 := 
      ⟨⟨.slice none 0 0, [], heap_alloc_new w0 _, OwnRecs.none _ _ _, ⟨none, 0, 0, rfl, .inl ⟨rfl, rfl, rfl⟩⟩⟩, (Below.refl _ _).alloc (Nat.le_refl _) _, (h.below b0 (Nat.le_refl _)).below ((Below.refl _ _).alloc (Nat.le_refl _) _) (Nat.le_refl _), Nat.zero_le _, hle, by simp, Nat.lt_succ_self _, Nat.le_refl _, h.below b0 (Nat.le_refl _)⟩
    have HC := hide (run_any w0 _ _ _ ao cap xs zSt hG ⟨by decide, by decide⟩ R hR)
    have HW : Hid (w0.heap.size = w.heap.size + 1 ∧ w0.heap[w.heap.size]? = some (.cells #[.int .i64 0, .int .i64 0, .int .i64 0, .int .i64 0, .slice none 0 0, .int .i64 0] 52 (0, 0)) ∧ Below w.heap.size w w0) := ⟨hs0, hk0, b0⟩
    have hli : ¬ (65536 : Int) < xs.length := by omega
    clear hG h hl hR
    rw [hs0] at HC
    go_enter Try.func28, Try.ntmps28
    go_wp2_with fail
    rw [← hw0]
    clear hw0 hk0 b0
    refine HC.out.mono ?_
    rintro e w2 ⟨rfl, a2, G2⟩
    obtain ⟨lv, us, hv⟩ := G2.rv
    have c2 : w2.cell? ⟨w.heap.size + 1, 2, none⟩ = some (.int .i64 R.1.term) := cell_of hv.blk rfl
    have c3 : w2.cell? ⟨w.heap.size + 1, 3, none⟩ = some (.int .i64 R.1.vote) := cell_of hv.blk rfl
    have c4 : w2.cell? ⟨w.heap.size + 1, 4, none⟩ = some (.int .i64 R.1.base) := cell_of hv.blk rfl
    have c5 : w2.cell? ⟨w.heap.size + 1, 5, none⟩ = some (.int .i64 R.1.bterm) := cell_of hv.blk rfl
    have c6 : w2.cell? ⟨w.heap.size + 1, 6, none⟩ = some lv := cell_of hv.blk rfl
    have c7 : w2.cell? ⟨w.heap.size + 1, 7, none⟩ = some (.int .i64 (R.2 : Nat)) := cell_of hv.blk rfl
    obtain ⟨lo, lc, hlv, _⟩ := hv.log.row
    subst hlv
    have hk2 : w2.heap[w.heap.size]? = some (.cells #[.int .i64 0, .int .i64 0, .int .i64 0, .int .i64 0, .slice none 0 0, .int .i64 0] 52 (0, 0)) := (G2.bel.block _ (by omega)).trans HW.out.2.1
    have fz := frozen_of hk2
    have HV := hide hv
    have HG := hide G2
    have HK := hide hk2
    have e0 : w2.cell? ⟨w.heap.size, 0, none⟩ = some (.int .i64 0) := cell_of hk2 rfl
    have e1 : w2.cell? ⟨w.heap.size, 1, none⟩ = some (.int .i64 0) := cell_of hk2 rfl
    have e2 : w2.cell? ⟨w.heap.size, 2, none⟩ = some (.int .i64 0) := cell_of hk2 rfl
    have e3 : w2.cell? ⟨w.heap.size, 3, none⟩ = some (.int .i64 0) := cell_of hk2 rfl
    have e4 : w2.cell? ⟨w.heap.size, 4, none⟩ = some (.slice none 0 0) := cell_of hk2 rfl
    have e5 : w2.cell? ⟨w.heap.size, 5, none⟩ = some (.int .i64 0) := cell_of hk2 rfl
    clear hv G2 hk2 HC
    go_wp2
    have HB6 := hide (six_sets HK.out (.int .i64 R.1.term) (.int .i64 R.1.vote) (.int .i64 R.1.base) (.int .i64 R.1.bterm) (.slice lo R.1.log.length lc) (.int .i64 (R.2 : Nat)))
    generalize ((((((w2.setCell ⟨w.heap.size, 0, none⟩ (.int .i64 R.1.term)).setCell ⟨w.heap.size, 1, none⟩ (.int .i64 R.1.vote)).setCell ⟨w.heap.size, 2, none⟩ (.int .i64 R.1.base)).setCell ⟨w.heap.size, 3, none⟩ (.int .i64 R.1.bterm)).setCell ⟨w.heap.size, 4, none⟩ (.slice lo R.1.log.length lc)).setCell ⟨w.heap.size, 5, none⟩ (.int .i64 (R.2 : Nat))) = W6 at HB6 ⊢
    have g0 : W6.cell? ⟨w.heap.size, 0, none⟩ = some (.int .i64 R.1.term) := cell_of HB6.out.1 rfl
    have g1 : W6.cell? ⟨w.heap.size, 1, none⟩ = some (.int .i64 R.1.vote) := cell_of HB6.out.1 rfl
    have g2 : W6.cell? ⟨w.heap.size, 2, none⟩ = some (.int .i64 R.1.base) := cell_of HB6.out.1 rfl
    have g3 : W6.cell? ⟨w.heap.size, 3, none⟩ = some (.int .i64 R.1.bterm) := cell_of HB6.out.1 rfl
    have g4 : W6.cell? ⟨w.heap.size, 4, none⟩ = some (.slice lo R.1.log.length lc) := cell_of HB6.out.1 rfl
    have g5 : W6.cell? ⟨w.heap.size, 5, none⟩ = some (.int .i64 (R.2 : Nat)) := cell_of HB6.out.1 rfl
    have HF : Hid (OwnRecs W6 w.heap.size (.slice lo R.1.log.length lc) R.1.log us ∧ Below w.heap.size w W6) := by
      refine ⟨(OwnRecs.grown HV.out.log HB6.out.2 (by omega)).mono (by omega), ?_⟩
      have b2 : Below w.heap.size w w2 := HW.out.2.2.trans (HG.out.bel.mono (by omega))
      exact b2.grown HB6.out.2 (by have := b2.size; omega) (fun k hk => by simp only [Option.some.injEq] at hk; omega)
    rw [HE.out]
    exact bodyPost_ret (v := .tuple #[.agg #[.int .i64 R.1.term, .int .i64 R.1.vote, .int .i64 R.1.base, .int .i64 R.1.bterm, .slice lo R.1.log.length lc, .int .i64 (R.2 : Nat)], .int .i64 0]) (by simp [results, Try.results28, go_sem, g0, g1, g2, g3, g4, g5]) rfl ⟨_, us, rfl, HF.out⟩
end Go.Proofs.Ytipcdioolafkpaa.recoveri
