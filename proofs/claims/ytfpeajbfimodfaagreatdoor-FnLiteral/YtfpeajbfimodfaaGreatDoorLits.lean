/- Letters within a text. -/
import Derived.Test.YtfpeajbfimodfaaGreatDoorFSeven
namespace Go.Proofs.YtfpeajbfimodfaaGreatDoor.lits
open Go.ChangeShapes Go.WideShapes Go.ChangeAt Go.RowKit
open Go.Proofs.YtfpeajbfimodfaaGreatDoor.bytes Go.Proofs.YtfpeajbfimodfaaGreatDoor.letters Go.Proofs.YtfpeajbfimodfaaGreatDoor.read Go.Proofs.YtfpeajbfimodfaaGreatDoor.net
set_option linter.unusedVariables false

theorem drop_take (ts : List Int) (m p : Nat) (h1 : p < m) (h2 : m ≤ ts.length) : (ts.take m).drop p = ts.getD p 0 :: (ts.take m).drop (p + 1) := by
  have hl : p < (ts.take m).length := by rw [List.length_take]; omega
  rw [List.drop_eq_getElem_cons hl]
  congr 1
  rw [List.getElem_take, List.getD_eq_getElem?_getD, List.getElem?_eq_getElem (by omega)]
  rfl
theorem restE_iff (ts : List Int) : ∀ (ys : List Int) (p : Nat), p ≤ ts.length → (restE ts ys p ≠ 0 ↔ p + ys.length ≤ ts.length ∧ (ts.take (p + ys.length)).drop p = ys)
  | [], p, h => by
    refine ⟨fun _ => ⟨by simpa using h, ?_⟩, fun _ => ?_⟩
    · apply List.drop_eq_nil_of_le
      rw [List.length_take]
      simp
      omega
    · exact Nat.ne_of_gt (Nat.pow_pos (by decide))
  | y :: ys, p, h => by
    unfold restE
    by_cases c : p < ts.length ∧ ts.getD p 0 = y
    · rw [if_pos c, restE_iff ts ys (p + 1) c.1]
      rw [show p + 1 + ys.length = p + (y :: ys).length by simp; omega]
      constructor
      · rintro ⟨h1, h2⟩
        exact ⟨h1, by rw [drop_take ts _ p (by simp) h1, c.2, h2]⟩
      · rintro ⟨h1, h2⟩
        rw [drop_take ts _ p (by simp) h1] at h2
        exact ⟨h1, (List.cons.inj h2).2⟩
    · rw [if_neg c]
      constructor
      · intro h
        exact absurd rfl h
      · rintro ⟨h1, h2⟩
        rw [drop_take ts _ p (by simp) h1] at h2
        exact absurd ⟨by simp at h1; omega, (List.cons.inj h2).1⟩ c
theorem byte_inj {a b : Int} (ha : 0 ≤ a ∧ a ≤ 255) (hb : 0 ≤ b ∧ b ≤ 255) (h : UInt8.ofNat a.toNat = UInt8.ofNat b.toNat) : a = b := by
  have h2 := congrArg UInt8.toNat h
  rw [UInt8.toNat_ofNat', UInt8.toNat_ofNat'] at h2
  omega
theorem map_inj : ∀ (xs ys : List Int), (∀ x ∈ xs, 0 ≤ x ∧ x ≤ 255) → (∀ y ∈ ys, 0 ≤ y ∧ y ≤ 255) → xs.map (fun x => UInt8.ofNat x.toNat) = ys.map (fun x => UInt8.ofNat x.toNat) → xs = ys
  | [], [], _, _, _ => rfl
  | [], y :: ys, _, _, h => by simp at h
  | x :: xs, [], _, _, h => by simp at h
  | x :: xs, y :: ys, hx, hy, h => by
    simp only [List.map_cons, List.cons.injEq] at h
    rw [byte_inj (hx x (by simp)) (hy y (by simp)) h.1, map_inj xs ys (fun z hz => hx z (by simp [hz])) (fun z hz => hy z (by simp [hz])) h.2]
/-- A piece of the text is the word just where the word is found. -/
theorem piece (ts ys : List Int) (hts : ∀ t ∈ ts, 0 ≤ t ∧ t ≤ 255) (hys : ∀ t ∈ ys, 0 ≤ t ∧ t ≤ 255) (p : Nat) (h : p + ys.length ≤ ts.length) : (((strOfNums ts).extract p (p + ys.length)).toList == (strOfNums ys).toList) = decide (restE ts ys p ≠ 0) := by
  rw [ext_nums, Lib.strOfNums_toList, Lib.strOfNums_toList]
  have hs : ∀ t ∈ (ts.take (p + ys.length)).drop p, 0 ≤ t ∧ t ≤ 255 := fun t ht => hts t (List.mem_of_mem_take (List.mem_of_mem_drop ht))
  by_cases e : (ts.take (p + ys.length)).drop p = ys
  · rw [e]
    have := (restE_iff ts ys p (by omega)).2 ⟨h, e⟩
    simp [this]
  · have hn : ¬ restE ts ys p ≠ 0 := fun c => e ((restE_iff ts ys p (by omega)).1 c).2
    have hm : ¬ ((ts.take (p + ys.length)).drop p).map (fun x => UInt8.ofNat x.toNat) = ys.map (fun x => UInt8.ofNat x.toNat) := fun c => e (map_inj _ _ hs hys c)
    simp only [hn, decide_false]
    exact beq_eq_false_iff_ne.2 hm
theorem at_end (zs ys : List Int) : restE (zs ++ ys) ys zs.length ≠ 0 := by
  rw [restE_iff _ _ _ (by rw [List.length_append]; omega)]
  refine ⟨by rw [List.length_append]; exact Nat.le_refl _, ?_⟩
  rw [← List.length_append, List.take_length, List.drop_left]
end Go.Proofs.YtfpeajbfimodfaaGreatDoor.lits
