/- Contract of the program's DiskCrash. -/
import Derived.Test.YtipcdioolafkpaaCrashAns
namespace Go.Proofs.Ytipcdioolafkpaa.implcrash
open Go.ChangeShapes Go.WideShapes Go.ChangeAt Go.RowKit
open Go.Proofs.Ytipcdioolafkpaa.bytes Go.Proofs.Ytipcdioolafkpaa.pile Go.Proofs.Ytipcdioolafkpaa.reader Go.Proofs.Ytipcdioolafkpaa.lists Go.Proofs.Ytipcdioolafkpaa.sizes Go.Proofs.Ytipcdioolafkpaa.marked Go.Proofs.Ytipcdioolafkpaa.disks Go.Proofs.Ytipcdioolafkpaa.diskmarks Go.Proofs.Ytipcdioolafkpaa.specdisk Go.Proofs.Ytipcdioolafkpaa.tracks Go.Proofs.Ytipcdioolafkpaa.trackof Go.Proofs.Ytipcdioolafkpaa.crashes Go.Proofs.Ytipcdioolafkpaa.crashed Go.Proofs.Ytipcdioolafkpaa.crashans
set_option linter.unusedVariables false

set_option maxRecDepth 20000 in
set_option maxHeartbeats 2000000 in
theorem implDiskCrash (w : World) (s p : Value) (xs : List Int) (us : List Value) (cs : List (List Int)) (h1 : RdA w s xs) (h2 : RdS w p us) (h3 : Texts w us cs) (hl : xs.length + cs.flatten.length ≤ 1099511627776) (keep torn : Int) (hk : keep ≤ 9223372036854775807) (ht : torn ≤ 9223372036854775807) :
    Calls Try.prog 25 #[.agg #[s, p], .int .i64 keep, .int .i64 torn] w fun e w' => CrashE w (crashA xs cs keep torn).1 (crashA xs cs keep torn).2 e w' := by
  have HS : Hid (RdA w s xs ∧ RdS w p us ∧ Texts w us cs) := ⟨h1, h2, h3⟩
  obtain ⟨⟨a0, c0, rfl, _, _⟩, _⟩ := h1
  obtain ⟨a1, c1, rfl, ha1, ha2, ha3⟩ := h2
  unfold maxLen at ha2
  clear h3 ha3
  obtain ⟨W0, hW0⟩ : ∃ W0, W0 = (w.alloc (.cells #[.slice a0 xs.length c0, .slice a1 us.length c1] 40)).alloc (.cells #[.slice none 0 0, .slice none 0 0] 40) := ⟨_, rfl⟩
  have sz0 : W0.heap.size = w.heap.size + 2 := by rw [hW0]; simp
  have b0 : Below w.heap.size w W0 := by rw [hW0]; exact ((Below.refl _ _).alloc (Nat.le_refl _) _).alloc (by simp) _
  have k1 : W0.heap[w.heap.size + 1]? = some (.cells #[.slice none 0 0, .slice none 0 0] 40 (0, 0)) := by rw [hW0]; exact (two_blocks w _ _).2
  have hC := trackOf_any W0 _ _ xs us cs (HS.out.1.below b0 (Nat.le_refl _)) (HS.out.2.1.below b0 (Nat.le_refl _)) (HS.out.2.2.below b0 (Nat.le_refl _)) hl
  rw [hW0] at hC
  go_enter Try.func25, Try.ntmps25
  go_wp2_with fail
  refine hC.mono ?_
  rw [← hW0]
  rintro e w1 ⟨hE, b1⟩
  have s1 := b1.size
  have k11 : w1.heap[w.heap.size + 1]? = some (.cells #[.slice none 0 0, .slice none 0 0] 40 (0, 0)) := (b1.block _ (by omega)).trans k1
  have B1 : Below w.heap.size w w1 := b0.trans (b1.mono (by omega))
  clear hC hW0 k1
  have HNil : Hid (∀ wr C, Below w1.heap.size w1 wr → wr.cell? ⟨w.heap.size + 1, 0, none⟩ = some (.slice none 0 0) ∧ wr.cell? ⟨w.heap.size + 1, 1, none⟩ = some (.slice none 0 0) ∧ wr.frozen? ⟨w.heap.size + 1, 0, none⟩ = false ∧ wr.frozen? ⟨w.heap.size + 1, 1, none⟩ = false ∧ ((wr.setCell ⟨w.heap.size + 1, 0, none⟩ (.slice none 0 0)).setCell ⟨w.heap.size + 1, 1, none⟩ (.slice none 0 0)).cell? ⟨w.heap.size + 1, 0, none⟩ = some (.slice none 0 0) ∧ ((wr.setCell ⟨w.heap.size + 1, 0, none⟩ (.slice none 0 0)).setCell ⟨w.heap.size + 1, 1, none⟩ (.slice none 0 0)).cell? ⟨w.heap.size + 1, 1, none⟩ = some (.slice none 0 0) ∧ Hid (CrashE w [] C (.returned (.tuple #[.agg #[.slice none 0 0, .slice none 0 0], .int .i64 C])) ((wr.setCell ⟨w.heap.size + 1, 0, none⟩ (.slice none 0 0)).setCell ⟨w.heap.size + 1, 1, none⟩ (.slice none 0 0)))) := fun wr C hb => by
    have k := (hb.block _ (by omega)).trans k11
    have kf := set2 k (.slice none 0 0) (.slice none 0 0)
    exact ⟨cell_of k rfl, cell_of k rfl, frozen_of k 0, frozen_of k 1, cell_of kf rfl, cell_of kf rfl, put_result (F := []) (B1.trans (hb.mono (by omega))) k ⟨by simp, World.ownsRow_nil _ _ _ _⟩⟩
  rcases hE with ⟨hr, ao, ca, ev, rfl, O1, E1⟩ | ⟨hn, rfl⟩
  · obtain ⟨eo, el, ec, hev⟩ := row_slice E1
    subst hev
    obtain ⟨w2, hw2⟩ : ∃ w2, w2 = w1.alloc (.cells #[.slice ao (xs ++ cs.flatten).length ca, .int .i64 xs.length, .slice eo el ec] 74) := ⟨_, rfl⟩
    have b12 : Below w1.heap.size w1 w2 := by rw [hw2]; exact (Below.refl _ _).alloc (Nat.le_refl _) _
    have sz2 : w2.heap.size = w1.heap.size + 1 := by rw [hw2]; simp
    have T2 : TS w2 W0.heap.size w1.heap.size (.slice ao (xs ++ cs.flatten).length ca) (xs ++ cs.flatten) xs.length (.slice eo el ec) (endsTo xs.length cs cs.length) := by
      refine ⟨by rw [hw2]; exact heap_alloc_new w1 _, O1.below b12 (Nat.le_refl _), ?_, s1⟩
      rw [endsTo_length]
      exact ends_below E1 b12 (Nat.le_refl _)
    by_cases hneg : keep < 0 ∨ torn < 0
    · have HA : Hid (crashA xs cs keep torn = ([], 5)) := crashA_neg hr hneg
      have hC := crash_bad w2 w1.heap.size keep torn hneg
      obtain ⟨d0, d1, e0, e1, g0, g1, HF⟩ := HNil.out w2 5 b12
      generalize hLL : (xs ++ cs.flatten).length = L at hw2 T2 O1
      rw [hw2] at hC d0 d1 e0 e1 g0 g1 HF
      clear hr T2 O1 E1 k11 hneg b12 sz2
      clear hw2
      go_wp2_with fail
      refine hC.mono ?_
      rintro e w3 ⟨rfl, hw3⟩
      subst hw3
      go_wp2
      exact bodyPost_ret (v := .tuple #[.agg #[.slice none 0 0, .slice none 0 0], .int .i64 5]) (by simp [results, Try.results25, go_sem, g0, g1]) rfl (by rw [HA.out]; exact HF.out)
    · obtain ⟨K, rfl⟩ := Int.eq_ofNat_of_zero_le (show 0 ≤ keep by omega)
      obtain ⟨R, rfl⟩ := Int.eq_ofNat_of_zero_le (show 0 ≤ torn by omega)
      have HA : Hid (crashA xs cs K R = (crashF xs cs K R, 0)) := crashA_ok hr
      have hC := crash_ok w2 _ _ _ xs _ cs T2 K R hr (by omega) (by omega)
      have hM8 : keptN xs.length cs K R ≤ 8192 := by
        have h1 := kept_le xs cs K R
        have h2 := hr.2
        rw [List.length_append] at h1
        omega
      have hMF : (crashF xs cs K R).length = keptN xs.length cs K R := by
        rw [← crash_take, List.length_take]
        have := kept_le xs cs K R
        omega
      generalize hLL : (xs ++ cs.flatten).length = L at hw2 T2 O1
      clear T2 O1 E1 hneg
      generalize crashF xs cs K R = F at hC hMF HA
      generalize keptN xs.length cs K R = M at hC hM8 hMF
      subst hMF
      rw [hw2] at hC
      clear hr
      go_wp2_with fail
      refine hC.mono ?_
      rw [← hw2]
      rintro e w3 ⟨rfl, T3, b3⟩
      have s3 := b3.size
      clear hC hw2
      have s12 := b12.size
      clear sz2
      go_wp2_with fail
      refine (disk_none w3 _ _ _ F.length F T3 hM8).mono ?_
      rintro e w4 ⟨rfl, b4⟩
      have B3 : Below w.heap.size w w3 := (B1.trans (b12.mono (by omega))).trans (b3.mono (by omega))
      have k21 : w2.heap[w.heap.size + 1]? = some (.cells #[.slice none 0 0, .slice none 0 0] 40 (0, 0)) := (b12.block _ (by omega)).trans k11
      have k31 : w3.heap[w.heap.size + 1]? = some (.cells #[.slice none 0 0, .slice none 0 0] 40 (0, 0)) := (b3.block _ (by omega)).trans k21
      have k41 : w4.heap[w.heap.size + 1]? = some (.cells #[.slice none 0 0, .slice none 0 0] 40 (0, 0)) := (b4.block _ (by omega)).trans k31
      have d0 := cell_of k41 (i := 0) rfl
      have d1 := cell_of k41 (i := 1) rfl
      have e0 := frozen_of k41 0
      have e1 := frozen_of k41 1
      have kf := set2 k41 (.slice (some ⟨w2.heap.size, 0, none⟩) F.length F.length) (.slice none 0 0)
      have g0 := cell_of kf (i := 0) rfl
      have g1 := cell_of kf (i := 1) rfl
      have HF := put_result (C := 0) (B3.trans (b4.mono (by omega))) k41 ((T3.all.below b4 (Nat.le_refl _)).mono (by omega))
      clear T3 b3 b4 k21 k31 k41 kf k11 b12
      go_wp2
      exact bodyPost_ret (v := .tuple #[.agg #[.slice (some ⟨w2.heap.size, 0, none⟩) F.length F.length, .slice none 0 0], .int .i64 0]) (by simp [results, Try.results25, go_sem, g0, g1]) rfl (by rw [HA.out]; exact HF)
  · have HA : Hid (crashA xs cs keep torn = ([], 1)) := crashA_wrong hn
    have b12 : Below w1.heap.size w1 (w1.alloc (.cells #[.slice none 0 0, .int .i64 0, .slice none 0 0] 74)) := (Below.refl _ _).alloc (Nat.le_refl _) _
    obtain ⟨d0, d1, e0, e1, g0, g1, HF⟩ := HNil.out _ 1 b12
    clear hn k11 b12
    go_wp2
    exact bodyPost_ret (v := .tuple #[.agg #[.slice none 0 0, .slice none 0 0], .int .i64 1]) (by simp [results, Try.results25, go_sem, g0, g1]) rfl (by rw [HA.out]; exact HF.out)
end Go.Proofs.Ytipcdioolafkpaa.implcrash
