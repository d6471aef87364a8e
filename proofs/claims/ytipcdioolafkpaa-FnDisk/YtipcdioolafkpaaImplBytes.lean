/- Contract of the program's DiskBytes. -/
import Derived.Test.YtipcdioolafkpaaTrackOf
namespace Go.Proofs.Ytipcdioolafkpaa.implbytes
open Go.ChangeShapes Go.WideShapes Go.ChangeAt Go.RowKit
open Go.Proofs.Ytipcdioolafkpaa.bytes Go.Proofs.Ytipcdioolafkpaa.pile Go.Proofs.Ytipcdioolafkpaa.reader Go.Proofs.Ytipcdioolafkpaa.lists Go.Proofs.Ytipcdioolafkpaa.sizes Go.Proofs.Ytipcdioolafkpaa.marked Go.Proofs.Ytipcdioolafkpaa.disks Go.Proofs.Ytipcdioolafkpaa.diskmarks Go.Proofs.Ytipcdioolafkpaa.specdisk Go.Proofs.Ytipcdioolafkpaa.tracks Go.Proofs.Ytipcdioolafkpaa.trackof
set_option linter.unusedVariables false

set_option maxRecDepth 20000 in
set_option maxHeartbeats 1000000 in
theorem implBytes (w : World) (s p : Value) (xs : List Int) (us : List Value) (cs : List (List Int)) (h1 : RdA w s xs) (h2 : RdS w p us) (h3 : Texts w us cs) (hl : xs.length + cs.flatten.length ≤ 1099511627776) :
    Calls Try.prog 24 #[.agg #[s, p]] w fun e w' => ∃ v, e = .returned (.tuple #[v, .int .i64 (diskA xs cs).2]) ∧ BytesAt w (diskA xs cs).1 v w' := by
  have HS : Hid (RdA w s xs ∧ RdS w p us ∧ Texts w us cs) := ⟨h1, h2, h3⟩
  obtain ⟨⟨a0, c0, rfl, _, _⟩, _⟩ := h1
  obtain ⟨a1, c1, rfl, ha1, ha2, ha3⟩ := h2
  clear h3 ha3
  obtain ⟨W0, hW0⟩ : ∃ W0, W0 = w.alloc (.cells #[.slice a0 xs.length c0, .slice a1 us.length c1] 40) := ⟨_, rfl⟩
  have b0 : Below w.heap.size w W0 := by rw [hW0]; exact (Below.refl _ _).alloc (Nat.le_refl _) _
  have sz0 : W0.heap.size = w.heap.size + 1 := by rw [hW0]; simp
  have hC := trackOf_any W0 _ _ xs us cs (HS.out.1.below b0 (Nat.le_refl _)) (HS.out.2.1.below b0 (Nat.le_refl _)) (HS.out.2.2.below b0 (Nat.le_refl _)) hl
  rw [hW0] at hC
  go_enter Try.func24, Try.ntmps24
  go_wp2_with fail
  refine hC.mono ?_
  rw [← hW0]
  rintro e w1 ⟨hE, b1⟩
  have s1 := b1.size
  have B1 : Below w.heap.size w w1 := b0.trans (b1.mono (by omega))
  clear hC hW0
  rcases hE with ⟨hr, ao, ca, ev, rfl, O1, E1⟩ | ⟨hn, rfl⟩
  · obtain ⟨eo, el, ec, hev⟩ := row_slice E1
    subst hev
    have HDA : Hid (diskA xs cs = (xs ++ cs.flatten, 0)) := diskA_right hr
    have HE : Hid (∀ wf, Below w1.heap.size w1 wf → BytesAt w (xs ++ cs.flatten) (.slice ao (xs ++ cs.flatten).length ca) wf) := fun wf hb => ⟨(O1.below hb (Nat.le_refl _)).mono (by omega), B1.trans (hb.mono (by omega))⟩
    clear O1 E1 hr b1 B1
    generalize hLL : (xs ++ cs.flatten).length = L at HE ⊢
    clear hLL
    go_wp2
    go_ret2
    rw [HDA.out]
    exact ⟨_, rfl, HE.out _ (by first | exact (Below.refl _ _).alloc (Nat.le_refl _) _ | exact below_set3 ((Below.refl _ _).alloc (Nat.le_refl _) _) (Nat.le_refl _) _ _ _)⟩
  · have HDA : Hid (diskA xs cs = ([], 1)) := diskA_wrong hn
    have HE : Hid (∀ wf, Below w1.heap.size w1 wf → BytesAt w [] (.slice none 0 0) wf) := fun wf hb => ⟨⟨by simp, World.ownsRow_nil _ _ _ _⟩, B1.trans (hb.mono (by omega))⟩
    clear hn b1 B1
    go_wp2
    go_ret2
    rw [HDA.out]
    exact ⟨_, rfl, HE.out _ (by first | exact (Below.refl _ _).alloc (Nat.le_refl _) _ | exact below_set3 ((Below.refl _ _).alloc (Nat.le_refl _) _) (Nat.le_refl _) _ _ _)⟩
end Go.Proofs.Ytipcdioolafkpaa.implbytes
