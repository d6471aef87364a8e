/- Contract of the specification's DiskCrash. -/
import Derived.Test.YthdkphpjpinphagSpecCrash
import Derived.Test.YthdkphpjpinphagCrashAns
namespace Go.Proofs.Ythdkphpjpinphag.specdiskcrash
open Go.ChangeShapes Go.WideShapes Go.ChangeAt Go.RowKit
open Go.Proofs.Ythdkphpjpinphag.bytes Go.Proofs.Ythdkphpjpinphag.pile Go.Proofs.Ythdkphpjpinphag.reader Go.Proofs.Ythdkphpjpinphag.lists Go.Proofs.Ythdkphpjpinphag.sizes Go.Proofs.Ythdkphpjpinphag.marked Go.Proofs.Ythdkphpjpinphag.disks Go.Proofs.Ythdkphpjpinphag.diskmarks Go.Proofs.Ythdkphpjpinphag.specdisk Go.Proofs.Ythdkphpjpinphag.tracks Go.Proofs.Ythdkphpjpinphag.trackof Go.Proofs.Ythdkphpjpinphag.crashes Go.Proofs.Ythdkphpjpinphag.crashed Go.Proofs.Ythdkphpjpinphag.speccrash Go.Proofs.Ythdkphpjpinphag.crashans
set_option linter.unusedVariables false

set_option maxRecDepth 20000 in
set_option maxHeartbeats 2000000 in
theorem specDiskCrash (w : World) (s p : Value) (xs : List Int) (us : List Value) (cs : List (List Int)) (h1 : RdA w s xs) (h2 : RdS w p us) (h3 : Texts w us cs) (hl : xs.length + cs.flatten.length ≤ 1099511627776) (keep torn : Int) (hk : keep ≤ 9223372036854775807) (ht : torn ≤ 9223372036854775807) :
    Calls Try.prog 6 #[.agg #[s, p], .int .i64 keep, .int .i64 torn] w fun e w' => CrashE w (crashA xs cs keep torn).1 (crashA xs cs keep torn).2 e w' := by
  have HS : Hid (RdA w s xs ∧ RdS w p us ∧ Texts w us cs) := ⟨h1, h2, h3⟩
  obtain ⟨⟨a0, c0, rfl, _, _⟩, _⟩ := h1
  obtain ⟨a1, c1, rfl, ha1, ha2, ha3⟩ := h2
  unfold maxLen at ha2
  clear h3 ha3
  obtain ⟨W0, hW0⟩ : ∃ W0, W0 = (w.alloc (.cells #[.slice a0 xs.length c0, .slice a1 us.length c1] 27)).alloc (.cells #[.slice none 0 0, .slice none 0 0] 27) := ⟨_, rfl⟩
  have sz0 : W0.heap.size = w.heap.size + 2 := by rw [hW0]; simp
  have b0 : Below w.heap.size w W0 := by rw [hW0]; exact ((Below.refl _ _).alloc (Nat.le_refl _) _).alloc (by simp) _
  have k0 : W0.heap[w.heap.size]? = some (.cells #[.slice a0 xs.length c0, .slice a1 us.length c1] 27 (0, 0)) := by rw [hW0]; exact (two_blocks w _ _).1
  have k1 : W0.heap[w.heap.size + 1]? = some (.cells #[.slice none 0 0, .slice none 0 0] 27 (0, 0)) := by rw [hW0]; exact (two_blocks w _ _).2
  have hC := ok_right W0 _ _ xs us cs (HS.out.1.below b0 (Nat.le_refl _)) (HS.out.2.1.below b0 (Nat.le_refl _)) (HS.out.2.2.below b0 (Nat.le_refl _)) hl
  rw [hW0] at hC
  go_enter Try.func6, Try.ntmps6
  go_wp2_with fail
  refine hC.mono ?_
  rw [← hW0]
  rintro e w1 ⟨⟨b, rfl, hb⟩, b1⟩
  have s1 := b1.size
  have k10 : w1.heap[w.heap.size]? = some (.cells #[.slice a0 xs.length c0, .slice a1 us.length c1] 27 (0, 0)) := (b1.block _ (by omega)).trans k0
  have k11 : w1.heap[w.heap.size + 1]? = some (.cells #[.slice none 0 0, .slice none 0 0] 27 (0, 0)) := (b1.block _ (by omega)).trans k1
  have B1 : Below w.heap.size w w1 := b0.trans (b1.mono (by omega))
  clear hC hW0 k0 k1
  have x10 := cell_of k10 (i := 0) rfl
  have x11 := cell_of k10 (i := 1) rfl
  have d0 := cell_of k11 (i := 0) rfl
  have d1 := cell_of k11 (i := 1) rfl
  have e0 := frozen_of k11 0
  have e1 := frozen_of k11 1
  have kf := set2 k11 (.slice none 0 0) (.slice none 0 0)
  have g0 := cell_of kf (i := 0) rfl
  have g1 := cell_of kf (i := 1) rfl
  have HNil : Hid (∀ C, CrashE w [] C (.returned (.tuple #[.agg #[.slice none 0 0, .slice none 0 0], .int .i64 C])) ((w1.setCell ⟨w.heap.size + 1, 0, none⟩ (.slice none 0 0)).setCell ⟨w.heap.size + 1, 1, none⟩ (.slice none 0 0))) := fun C => put_result (F := []) B1 k11 ⟨by simp, World.ownsRow_nil _ _ _ _⟩
  cases b with
  | false =>
    have HA : Hid (crashA xs cs keep torn = ([], 1)) := crashA_wrong (fun h => by simpa using hb.2 h)
    clear hb kf k10 k11
    go_wp2
    exact bodyPost_ret (v := .tuple #[.agg #[.slice none 0 0, .slice none 0 0], .int .i64 1]) (by simp [results, Try.results6, go_sem, g0, g1]) rfl (by rw [HA.out]; exact HNil.out 1)
  | true =>
    have hr : Right xs cs := hb.1 rfl
    by_cases hneg : keep < 0 ∨ torn < 0
    · have HA : Hid (crashA xs cs keep torn = ([], 5)) := crashA_neg hr hneg
      clear hb kf k10 k11 hr
      by_cases hkn : keep < 0
      · go_wp2
        exact bodyPost_ret (v := .tuple #[.agg #[.slice none 0 0, .slice none 0 0], .int .i64 5]) (by simp [results, Try.results6, go_sem, g0, g1]) rfl (by rw [HA.out]; exact HNil.out 5)
      · have htn : torn < 0 := by omega
        go_wp2
        exact bodyPost_ret (v := .tuple #[.agg #[.slice none 0 0, .slice none 0 0], .int .i64 5]) (by simp [results, Try.results6, go_sem, g0, g1]) rfl (by rw [HA.out]; exact HNil.out 5)
    · obtain ⟨K, rfl⟩ := Int.eq_ofNat_of_zero_le (show 0 ≤ keep by omega)
      obtain ⟨R, rfl⟩ := Int.eq_ofNat_of_zero_le (show 0 ≤ torn by omega)
      have HA : Hid (crashA xs cs K R = (crashF xs cs K R, 0)) := crashA_ok hr
      have h5 : ¬ (K : Int) < 0 := by omega
      have h6 : ¬ (R : Int) < 0 := by omega
      have hC := specLeft w1 _ _ xs us cs (HS.out.1.below B1 (Nat.le_refl _)) (HS.out.2.1.below B1 (Nat.le_refl _)) (HS.out.2.2.below B1 (Nat.le_refl _)) hl K R (by omega) (by omega)
      clear hb kf hr g0 g1 d0 d1 e0 e1
      go_wp2_with fail
      refine hC.mono ?_
      rintro e w2 ⟨v, rfl, o, c, rfl, O2, b2⟩
      have k21 : w2.heap[w.heap.size + 1]? = some (.cells #[.slice none 0 0, .slice none 0 0] 27 (0, 0)) := (b2.block _ (by omega)).trans k11
      have d0 := cell_of k21 (i := 0) rfl
      have d1 := cell_of k21 (i := 1) rfl
      have e0 := frozen_of k21 0
      have e1 := frozen_of k21 1
      generalize hFE : crashF xs cs K R = F at O2 HA
      have kf := set2 k21 (.slice o F.length c) (.slice none 0 0)
      have g0 := cell_of kf (i := 0) rfl
      have g1 := cell_of kf (i := 1) rfl
      have HF := put_result (C := 0) (B1.trans (b2.mono (by omega))) k21 (O2.mono (by omega))
      clear hC O2 b2 k21 kf k10 k11
      go_wp2
      exact bodyPost_ret (v := .tuple #[.agg #[.slice o F.length c, .slice none 0 0], .int .i64 0]) (by simp [results, Try.results6, go_sem, g0, g1]) rfl (by rw [HA.out]; exact HF)
end Go.Proofs.Ythdkphpjpinphag.specdiskcrash
