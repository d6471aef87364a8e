/- What the law on Recover needs: the model's answer, bounds of what is recovered, marks. -/
import Derived.Test.YtipcdioolafkpaaRecovers2
import Derived.Test.YtipcdioolafkpaaWalHelp
namespace Go.Proofs.Ytipcdioolafkpaa.reclaw
open Go.ChangeShapes Go.WideShapes Go.ChangeAt Go.RowKit
open Go.Proofs.Ytipcdioolafkpaa.bytes Go.Proofs.Ytipcdioolafkpaa.pile Go.Proofs.Ytipcdioolafkpaa.put Go.Proofs.Ytipcdioolafkpaa.crcs Go.Proofs.Ytipcdioolafkpaa.join Go.Proofs.Ytipcdioolafkpaa.frames Go.Proofs.Ytipcdioolafkpaa.get Go.Proofs.Ytipcdioolafkpaa.dec Go.Proofs.Ytipcdioolafkpaa.take Go.Proofs.Ytipcdioolafkpaa.one Go.Proofs.Ytipcdioolafkpaa.votes Go.Proofs.Ytipcdioolafkpaa.pays Go.Proofs.Ytipcdioolafkpaa.rechelp Go.Proofs.Ytipcdioolafkpaa.recrows Go.Proofs.Ytipcdioolafkpaa.recmarks Go.Proofs.Ytipcdioolafkpaa.walhelp Go.Proofs.Ytipcdioolafkpaa.recov Go.Proofs.Ytipcdioolafkpaa.fits Go.Proofs.Ytipcdioolafkpaa.readrec Go.Proofs.Ytipcdioolafkpaa.readrecord Go.Proofs.Ytipcdioolafkpaa.goesalong Go.Proofs.Ytipcdioolafkpaa.recovers Go.Proofs.Ytipcdioolafkpaa.recoveri Go.Proofs.Ytipcdioolafkpaa.specs Go.Proofs.Ytipcdioolafkpaa.recs Go.Proofs.Ytipcdioolafkpaa.spect Go.Proofs.Ytipcdioolafkpaa.logcells Go.Proofs.Ytipcdioolafkpaa.takesp Go.Proofs.Ytipcdioolafkpaa.recovers2
set_option linter.unusedVariables false

def logOK (s : St) : Prop := s.log.length ≤ 100 ∧ ∀ r ∈ s.log, r.d.length ≤ 1000
theorem take_ok {s s' : St} {p : List Int} (hs : logOK s) (h : takeS s p = some s') : logOK s' := by
  refine ⟨recovers2.take_len hs.1 h, ?_⟩
  unfold takeS at h
  split at h
  · simp at h
  split at h
  · split at h
    · simp at h
    · unfold fitV at h
      split at h
      · simp at h
      · simp only [Option.some.injEq] at h; subst h; exact hs.2
  split at h
  · split at h
    · simp at h
    · rename_i hr
      unfold fitE at h
      split at h
      · simp at h
      · simp only [Option.some.injEq] at h
        subst h
        intro r hm
        rcases List.mem_append.1 hm with hm | hm
        · exact hs.2 r (List.mem_of_mem_take hm)
        · simp only [List.mem_singleton] at hm
          subst hm
          simp only
          omega
  split at h
  · split at h
    · simp at h
    · unfold fitB at h
      split at h
      · simp at h
      · simp only [Option.some.injEq] at h; subst h; exact fun r hm => hs.2 r (List.mem_of_mem_drop hm)
  · simp at h
theorem recL_ok (xs : List Int) : ∀ (f : Nat) (s : St) (a : Nat), logOK s → logOK (recL xs f s a).1
  | 0, s, a, h => h
  | f + 1, s, a, h => by
    by_cases hw : (frameAt (xs.drop a)).1 = -1
    · cases ht : takeS s (frameAt (xs.drop a)).2.1 with
      | none => rw [recL_stop hw ht]; exact h
      | some s' => rw [recL_some hw ht]; exact recL_ok xs f s' _ (take_ok h ht)
    · rw [recL_none hw]; exact h
theorem zSt_ok : logOK zSt := ⟨by simp [zSt], by simp [zSt]⟩
theorem recA_ok (xs : List Int) : logOK (recA xs).1 := by
  unfold recA
  split
  · exact zSt_ok
  · exact recL_ok xs _ _ _ zSt_ok
theorem sum_le : ∀ l : List Rec3, (∀ r ∈ l, r.d.length ≤ 1000) → (l.map fun r => r.d.length).sum ≤ 1000 * l.length
  | [], _ => by simp
  | r :: l, h => by
    have h1 := h r (by simp)
    have h2 := sum_le l (fun r hr => h r (by simp [hr]))
    simp only [List.map_cons, List.sum_cons, List.length_cons]
    omega
theorem sumTo_ok {s : St} (h : logOK s) : sumTo s.log s.log.length ≤ 100000 := by
  unfold sumTo
  rw [List.take_length]
  have := sum_le s.log h.2
  have := h.1
  omega

/-- What the model's Recover answers. -/
def RecS (w : World) (R : St × Nat × Int) (e : Ending) (w' : World) : Prop := ∃ o n c us, e = .returned (.tuple #[.agg #[.int .i64 R.1.term, .int .i64 R.1.vote, .int .i64 R.1.base, .int .i64 R.1.bterm, .slice o n c, .int .i64 (R.2.1 : Nat)], .int .i64 R.2.2]) ∧ LogR w' (.slice o n c) R.1.log us ∧ Below w.heap.size w w'
set_option maxHeartbeats 4000000 in
theorem specRecover (w : World) (ao : Option Addr) (cap : Nat) (xs : List Int) (h : RdA w (.slice ao xs.length cap) xs) :
    Calls Try.prog 29 #[.slice ao xs.length cap] w (RecS w (recA xs)) := by
  obtain ⟨_, hc1, hc2⟩ := le_cap h.1
  unfold maxLen at hc2
  by_cases hl : 65536 < xs.length
  · have HE : Hid (recA xs = (zSt, 0, 2)) := by unfold Hid recA; rw [if_pos hl]
    rw [HE.out]
    have hli : (65536 : Int) < xs.length := by omega
    have HB : Hid (∀ o, Below w.heap.size w (w.alloc o)) := fun o => (Below.refl _ _).alloc (Nat.le_refl _) _
    clear h HE
    go_enter Try.func29, Try.ntmps29
    go_wp2
    exact bodyPost_ret (v := .tuple #[.agg #[.int .i64 0, .int .i64 0, .int .i64 0, .int .i64 0, .slice none 0 0, .int .i64 0], .int .i64 2]) (by simp [results, Try.results29, go_sem]) rfl ⟨none, 0, 0, [], rfl, ⟨(OwnRecs.none _ 0 _).rd, fun n c e => by simp only [Value.slice.injEq, true_and] at e; omega⟩, HB.out _⟩
  · have hle : xs.length ≤ 65536 := by omega
    obtain ⟨R, hR⟩ : ∃ R, recL xs (xs.length + 1) zSt 0 = R := ⟨_, rfl⟩
    have HE : Hid (recA xs = (R.1, R.2, 0)) := by unfold Hid recA; rw [if_neg hl, hR]
    rw [HE.out]
    obtain ⟨w0, hw0⟩ : ∃ w0, w0 = w.alloc (.cells #[.int .i64 0, .int .i64 0, .int .i64 0, .int .i64 0, .slice none 0 0, .int .i64 0] 52) := ⟨_, rfl⟩
    have hs0 : w0.heap.size = w.heap.size + 1 := by rw [hw0]; simp
    have hk0 : w0.heap[w.heap.size]? = some (.cells #[.int .i64 0, .int .i64 0, .int .i64 0, .int .i64 0, .slice none 0 0, .int .i64 0] 52 (0, 0)) := by rw [hw0]; exact heap_alloc_new w _
    have b0 : Below w.heap.size w w0 := by rw [hw0]; exact (Below.refl _ _).alloc (Nat.le_refl _) _
    have hC := recover_spec w0 ao cap xs (h.below b0 (Nat.le_refl _)) hle
    rw [hR] at hC
    have HC := hide hC
    have HW : Hid (w0.heap.size = w.heap.size + 1 ∧ w0.heap[w.heap.size]? = some (.cells #[.int .i64 0, .int .i64 0, .int .i64 0, .int .i64 0, .slice none 0 0, .int .i64 0] 52 (0, 0)) ∧ Below w.heap.size w w0) := ⟨hs0, hk0, b0⟩
    have hli : ¬ (65536 : Int) < xs.length := by omega
    clear h hl hR hC
    go_enter Try.func29, Try.ntmps29
    go_wp2_with fail
    rw [← hw0]
    clear hw0 hk0 b0
    refine HC.out.mono ?_
    rintro e w2 ⟨o, n, c, us, rfl, L2, B2, F2⟩
    unfold walV
    have hk2 : w2.heap[w.heap.size]? = some (.cells #[.int .i64 0, .int .i64 0, .int .i64 0, .int .i64 0, .slice none 0 0, .int .i64 0] 52 (0, 0)) := (B2.block _ (by omega)).trans HW.out.2.1
    have fz := frozen_of hk2
    have HK := hide hk2
    have HL := hide (And.intro L2 (And.intro B2 F2))
    have e0 : w2.cell? ⟨w.heap.size, 0, none⟩ = some (.int .i64 0) := cell_of HK.out rfl
    have e1 : w2.cell? ⟨w.heap.size, 1, none⟩ = some (.int .i64 0) := cell_of HK.out rfl
    have e2 : w2.cell? ⟨w.heap.size, 2, none⟩ = some (.int .i64 0) := cell_of HK.out rfl
    have e3 : w2.cell? ⟨w.heap.size, 3, none⟩ = some (.int .i64 0) := cell_of HK.out rfl
    have e4 : w2.cell? ⟨w.heap.size, 4, none⟩ = some (.slice none 0 0) := cell_of HK.out rfl
    have e5 : w2.cell? ⟨w.heap.size, 5, none⟩ = some (.int .i64 0) := cell_of HK.out rfl
    clear hk2 L2 B2 F2 HC
    go_wp2
    have HS6 := hide (six_sets HK.out (.int .i64 R.1.term) (.int .i64 R.1.vote) (.int .i64 R.1.base) (.int .i64 R.1.bterm) (.slice o n c) (.int .i64 (R.2 : Nat)))
    generalize ((((((w2.setCell ⟨w.heap.size, 0, none⟩ (.int .i64 R.1.term)).setCell ⟨w.heap.size, 1, none⟩ (.int .i64 R.1.vote)).setCell ⟨w.heap.size, 2, none⟩ (.int .i64 R.1.base)).setCell ⟨w.heap.size, 3, none⟩ (.int .i64 R.1.bterm)).setCell ⟨w.heap.size, 4, none⟩ (.slice o n c)).setCell ⟨w.heap.size, 5, none⟩ (.int .i64 (R.2 : Nat))) = W6 at HS6 ⊢
    have g0 : W6.cell? ⟨w.heap.size, 0, none⟩ = some (.int .i64 R.1.term) := cell_of HS6.out.1 rfl
    have g1 : W6.cell? ⟨w.heap.size, 1, none⟩ = some (.int .i64 R.1.vote) := cell_of HS6.out.1 rfl
    have g2 : W6.cell? ⟨w.heap.size, 2, none⟩ = some (.int .i64 R.1.base) := cell_of HS6.out.1 rfl
    have g3 : W6.cell? ⟨w.heap.size, 3, none⟩ = some (.int .i64 R.1.bterm) := cell_of HS6.out.1 rfl
    have g4 : W6.cell? ⟨w.heap.size, 4, none⟩ = some (.slice o n c) := cell_of HS6.out.1 rfl
    have g5 : W6.cell? ⟨w.heap.size, 5, none⟩ = some (.int .i64 (R.2 : Nat)) := cell_of HS6.out.1 rfl
    exact bodyPost_ret (v := .tuple #[.agg #[.int .i64 R.1.term, .int .i64 R.1.vote, .int .i64 R.1.base, .int .i64 R.1.bterm, .slice o n c, .int .i64 (R.2 : Nat)], .int .i64 0]) (by simp [results, Try.results29, go_sem, g0, g1, g2, g3, g4, g5]) rfl ⟨o, n, c, us, rfl, HL.out.1.grown HS6.out.2 (HL.out.2.2 _ (by omega)), (HW.out.2.2.trans (HL.out.2.1.mono (by omega))).grown HS6.out.2 (by have := HW.out.2.2.size; have := HL.out.2.1.size; omega) (fun k hk => by simp only [Option.some.injEq] at hk; omega)⟩

theorem recs_lt {w : World} {base : Nat} {v : Value} {rl : List Rec3} {us : List Value} (h : OwnRecs w base v rl us) (hp : 0 < rl.length) : ∀ u ∈ (v :: us), ∀ k, u.ownBlock = some k → base ≤ k ∧ k < w.heap.size := by
  intro u hu k hk
  rcases List.mem_cons.1 hu with rfl | hu
  · obtain ⟨ao, cap, rfl, _, _, h4⟩ := h.row
    obtain ⟨g, off, cur, rfl, hb, hg, _⟩ := h4 hp
    simp only [Value.ownBlock, Option.some.injEq] at hk
    subst hk
    exact ⟨hb, (Array.getElem?_eq_some_iff.1 hg).1⟩
  · obtain ⟨j, hj, rfl⟩ := List.getElem_of_mem hu
    have hj' : j < rl.length := by rw [← h.len]; exact hj
    have := h.each j hj'
    have e : us.getD j (.slice none 0 0) = us[j] := by simp [List.getD_eq_getElem?_getD, hj]
    rw [e] at this
    exact this.lt k hk
theorem OwnRecs.keptRow {w w' : World} {base : Nat} {v : Value} {rl : List Rec3} {us : List Value} {row : Option Nat} (h : OwnRecs w base v rl us) (hg : w.grownBy w' row) (hlt : ∀ k, row = some k → k < base) : OwnRecs w' base v rl us := by
  cases row with
  | none => exact h.below (B := w.heap.size) ⟨hg.os, hg.tape, hg.output, hg.size, fun k hk => hg.block k hk (by simp)⟩ (Nat.le_refl _)
  | some b => exact OwnRecs.grown h hg (hlt b rfl)
end Go.Proofs.Ytipcdioolafkpaa.reclaw
