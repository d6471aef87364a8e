/- Contract of the laws' own comparison of two lists of bytes: lists that read alike are the same. -/
import Derived.Test.YtipcdioolafkpaaReader
import Derived.Test.YtipcdioolafkpaaChoice
namespace Go.Proofs.Ytipcdioolafkpaa.same
open Go.ChangeShapes Go.WideShapes Go.ChangeAt Go.RowKit
open Go.Proofs.Ytipcdioolafkpaa.bytes Go.Proofs.Ytipcdioolafkpaa.pile Go.Proofs.Ytipcdioolafkpaa.reader Go.Proofs.Ytipcdioolafkpaa.choice
set_option linter.unusedVariables false

theorem row_rdS {w : World} {base : Nat} {a : Value} {us : List Value} (h : w.ownsRow base 22 1 a us.length us) : RdS w a us := by
  have h' := h
  obtain ⟨h1, ⟨rfl, h2⟩ | ⟨g, cap, cur, rfl, hb, hg, hnc, hcm, hcs, htake⟩⟩ := h
  · exact ⟨none, 0, by rw [h2], by omega, by simp [maxLen], fun hp => by omega⟩
  · refine ⟨_, cap, rfl, hnc, hcm, fun hp => ⟨g, 0, rfl, fun i hi => ?_⟩⟩
    have := World.ownsRow.cellAt h' i (by omega)
    rw [Nat.zero_add, this]
    simp [List.getD_eq_getElem?_getD, hi]

set_option maxHeartbeats 800000 in
theorem same_any (w : World) (a b : Value) (us vs : List Value) (xss : List (List Int)) (ha : RdS w a us) (hb : RdS w b vs) (hta : Texts w us xss) (htb : Texts w vs xss) :
    Calls Try.prog 16 #[a, b] w fun e w' => e = .returned (.bool true) ∧ ∃ n, w' = w.drewN n := by
  have HT : Hid (Texts w us xss ∧ Texts w vs xss) := ⟨hta, htb⟩
  have hl1 := hta.1
  have hl2 := htb.1
  have hl : us.length = vs.length := by omega
  clear hta htb hl1 hl2
  obtain ⟨ao, ca, rfl, ha1, ha2, ha3⟩ := ha
  obtain ⟨bo, cb, rfl, hb1, hb2, hb3⟩ := hb
  unfold maxLen at ha2 hb2
  have HL : Hid (us.length = vs.length) := hl
  rw [← hl] at hb1 hb3
  rw [← hl]
  clear hl
  have hne : (((us.length : Nat) : Int) != ((us.length : Nat) : Int)) = false := by simp
  go_enter Try.func16, Try.ntmps16
  go_wp2
  go_loopw [5] (fun i wr => ∃ k m : Nat, k ≤ us.length ∧ i = .int .i64 k ∧ wr = w.drewN m) (fun i _ => us.length - (intOf i).toNat)
  case atStart => exact ⟨0, 0, by omega, rfl, rfl⟩
  case round =>
    obtain ⟨k, m, hk, rfl, rfl⟩ := hrel
    by_cases hlt : k < us.length
    · obtain ⟨ab, aoff, rfl, hca⟩ := ha3 (by omega)
      obtain ⟨bb, boff, rfl, hcb⟩ := hb3 (by omega)
      have hca' := hca k hlt
      have hcb' := hcb k hlt
      have hk1 : ∀ x, (convert 22 9 (us.getD k (.slice none 0 0))).run Try.prog (w.drewN x) = .ok (.string (strOf (xss.getD k []))) (w.drewN x) := fun x => run_str ((HT.out.1.2 k hlt).below (below_same w x) (Nat.le_refl _))
      have hk2 : ∀ x, (convert 22 9 (vs.getD k (.slice none 0 0))).run Try.prog (w.drewN x) = .ok (.string (strOf (xss.getD k []))) (w.drewN x) := fun x => run_str ((HT.out.2.2 k (by rw [← HL.out]; exact hlt)).below (below_same w x) (Nat.le_refl _))
      clear hca hcb ha3 hb3
      generalize strOf (xss.getD k []) = s at hk1 hk2
      generalize us.getD k (.slice none 0 0) = u at hca' hk1
      generalize vs.getD k (.slice none 0 0) = v at hcb' hk2
      go_wp2
      go_quiet (fail)
      go_wp2
      go_roundw
      case rel => exact ⟨k + 1, _, by omega, by go_num, rfl⟩
      case measure => simp [intOf]; omega
    · go_wp2
      go_ret
      exact ⟨rfl, m, rfl⟩
end Go.Proofs.Ytipcdioolafkpaa.same
