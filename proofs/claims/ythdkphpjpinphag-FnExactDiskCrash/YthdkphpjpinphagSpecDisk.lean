/- Contracts of the specification's own functions on disks: how large, right or not, all bytes. -/
import Derived.Test.YthdkphpjpinphagDiskMarks
namespace Go.Proofs.Ythdkphpjpinphag.specdisk
open Go.ChangeShapes Go.WideShapes Go.ChangeAt Go.RowKit
open Go.Proofs.Ythdkphpjpinphag.bytes Go.Proofs.Ythdkphpjpinphag.pile Go.Proofs.Ythdkphpjpinphag.reader Go.Proofs.Ythdkphpjpinphag.lists Go.Proofs.Ythdkphpjpinphag.sizes Go.Proofs.Ythdkphpjpinphag.marked Go.Proofs.Ythdkphpjpinphag.disks Go.Proofs.Ythdkphpjpinphag.diskmarks
set_option linter.unusedVariables false

/-- A disk is right. -/
def Right (xs : List Int) (cs : List (List Int)) : Prop := cs.length ≤ 200 ∧ xs.length + cs.flatten.length ≤ 8192
/-- What DiskBytes answers. -/
noncomputable def diskA (xs : List Int) (cs : List (List Int)) : List Int × Int := by
  classical
  exact if Right xs cs then (xs ++ cs.flatten, 0) else ([], 1)
theorem diskA_right {xs : List Int} {cs : List (List Int)} (h : Right xs cs) : diskA xs cs = (xs ++ cs.flatten, 0) := by unfold diskA; rw [if_pos h]
theorem diskA_wrong {xs : List Int} {cs : List (List Int)} (h : ¬ Right xs cs) : diskA xs cs = ([], 1) := by unfold diskA; rw [if_neg h]

set_option maxHeartbeats 800000 in
theorem size_any (w : World) (s p : Value) (xs : List Int) (us : List Value) (cs : List (List Int)) (h1 : RdA w s xs) (h2 : RdS w p us) (h3 : Texts w us cs) (hl : xs.length + cs.flatten.length ≤ 1099511627776) :
    Calls Try.prog 36 #[.agg #[s, p]] w fun e w' => e = .returned (.int .i64 ((xs.length : Int) + (cs.flatten.length : Int))) ∧ Below w.heap.size w w' := by
  have HU : Hid (us.length = cs.length) := h3.1
  have HT : Hid (Texts w us cs) := h3
  obtain ⟨⟨a0, c0, rfl, _, _⟩, _⟩ := h1
  obtain ⟨a1, c1, rfl, ha1, ha2, ha3⟩ := h2
  unfold maxLen at ha2
  obtain ⟨T, hT⟩ : ∃ T, T = cs.flatten.length := ⟨_, rfl⟩
  have HTT : Hid (T = cs.flatten.length) := hT
  rw [← hT] at hl ⊢
  clear hT h3
  have HB : Hid (Below w.heap.size w (w.alloc (.cells #[.slice a0 xs.length c0, .slice a1 us.length c1] 27))) := (Below.refl _ _).alloc (Nat.le_refl _) _
  go_enter Try.func36, Try.ntmps36
  go_wp2
  go_loop [3, 4] (fun n i => ∃ k : Nat, k ≤ us.length ∧ i = .int .i64 k ∧ n = .int .i64 ((xs.length : Int) + (sizeTo cs k : Int))) (fun _ i => us.length - (intOf i).toNat)
  case atStart => exact ⟨0, by omega, rfl, by simp [sizeTo]⟩
  case round =>
    obtain ⟨k, hk, rfl, rfl⟩ := hrel
    have hsz : sizeTo cs k ≤ T := by rw [HTT.out]; exact sizeTo_le cs k
    by_cases hlt : k < us.length
    · obtain ⟨ab, aoff, rfl, hca⟩ := ha3 (by omega)
      have hck := hca k hlt
      have hcl : (w.alloc (.cells #[.slice a0 xs.length c0, .slice (some ⟨ab, aoff, none⟩) us.length c1] 27)).cell? ⟨ab, aoff + k, none⟩ = some (us.getD k (.slice none 0 0)) := (HB.out.cell (cell_lt hck)).trans hck
      have HS : Hid (sizeTo cs (k + 1) = sizeTo cs k + (cs.getD k []).length) := sizeTo_succ (xss := cs) (k := k) (by rw [← HU.out]; exact hlt)
      have hs2 : sizeTo cs (k + 1) ≤ T := by rw [HTT.out]; exact sizeTo_le cs (k + 1)
      obtain ⟨⟨co, c2, hcv, _⟩, _⟩ := HT.out.2 k hlt
      rw [hcv] at hcl
      rw [HS.out] at hs2
      generalize (cs.getD k []).length = L at hcl HS hs2
      clear hca hck hcv ha3
      go_wp2
      go_round
      case rel => exact ⟨k + 1, by omega, by go_num, by rw [HS.out]; go_num⟩
      case measure => simp [intOf]; omega
    · have hkT : sizeTo cs k = T := by
        rw [HTT.out]
        unfold sizeTo
        rw [List.take_of_length_le (by rw [← HU.out]; omega)]
      rw [hkT]
      go_wp2
      go_ret
      exact ⟨rfl, HB.out⟩

/-- It says whether a disk is right. -/
def OkE (xs : List Int) (cs : List (List Int)) (e : Ending) : Prop := ∃ b : Bool, e = .returned (.bool b) ∧ (b = true ↔ Right xs cs)
theorem own_lit (w : World) {base K : Nat} (h : base ≤ w.heap.size) (hK : w.heap.size = K) : Own (w.alloc (.cells #[] 5)) base (.slice (some ⟨K, 0, none⟩) 0 0) [] := by
  subst hK
  exact ⟨by simp, World.ownsRow_lit _ #[] 0 h (by simp [maxLen]) (by simp)⟩

set_option maxHeartbeats 800000 in
theorem ok_right (w : World) (s p : Value) (xs : List Int) (us : List Value) (cs : List (List Int)) (h1 : RdA w s xs) (h2 : RdS w p us) (h3 : Texts w us cs) (hl : xs.length + cs.flatten.length ≤ 1099511627776) :
    Calls Try.prog 22 #[.agg #[s, p]] w fun e w' => OkE xs cs e ∧ Below w.heap.size w w' := by
  have HU : Hid (us.length = cs.length) := h3.1
  have HS : Hid (RdA w s xs ∧ RdS w p us ∧ Texts w us cs) := ⟨h1, h2, h3⟩
  obtain ⟨⟨a0, c0, rfl, _, _⟩, _⟩ := h1
  obtain ⟨a1, c1, rfl, ha1, ha2, ha3⟩ := h2
  unfold maxLen at ha2
  clear h3 ha3
  have HB : Hid (Below w.heap.size w (w.alloc (.cells #[.slice a0 xs.length c0, .slice a1 us.length c1] 27))) := (Below.refl _ _).alloc (Nat.le_refl _) _
  by_cases hc : (us.length : Int) ≤ 200
  · obtain ⟨T, hT⟩ : ∃ T, T = cs.flatten.length := ⟨_, rfl⟩
    have HTT : Hid (T = cs.flatten.length) := hT
    have HC : Hid (∀ wx, Below w.heap.size w wx → Calls Try.prog 36 #[.agg #[.slice a0 xs.length c0, .slice a1 us.length c1]] wx fun e w' => e = .returned (.int .i64 ((xs.length : Int) + (T : Int))) ∧ Below wx.heap.size wx w') := fun wx hb => by
      rw [hT]
      exact size_any wx _ _ xs us cs (HS.out.1.below hb (Nat.le_refl _)) (HS.out.2.1.below hb (Nat.le_refl _)) (HS.out.2.2.below hb (Nat.le_refl _)) hl
    clear hT hl
    go_enter Try.func22, Try.ntmps22
    go_wp2_with fail
    refine (HC.out _ HB.out).mono ?_
    rintro e w1 ⟨rfl, b1⟩
    have HB1 : Hid (Below w.heap.size w w1) := HB.out.trans (b1.mono (by simp))
    clear b1 HC
    go_wp2
    go_ret
    refine ⟨⟨decide ((xs.length : Int) + (T : Int) ≤ 8192), rfl, ?_⟩, HB1.out⟩
    rw [decide_eq_true_iff]
    unfold Right
    rw [← HU.out, ← HTT.out]
    omega
  · go_enter Try.func22, Try.ntmps22
    go_wp2
    go_ret
    refine ⟨⟨false, rfl, ?_⟩, HB.out⟩
    unfold Right
    rw [← HU.out]
    simp
    omega

/-- All bytes of a disk, in memory of its own. -/
def BytesAt (w : World) (xs : List Int) (v : Value) (w' : World) : Prop := Own w' w.heap.size v xs ∧ Below w.heap.size w w'

end Go.Proofs.Ythdkphpjpinphag.specdisk
