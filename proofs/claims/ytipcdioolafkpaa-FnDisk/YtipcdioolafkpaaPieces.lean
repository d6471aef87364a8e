/- The pieces of a track read as the writes. -/
import Derived.Test.YtipcdioolafkpaaImplRun
namespace Go.Proofs.Ytipcdioolafkpaa.pieces
open Go.ChangeShapes Go.WideShapes Go.ChangeAt Go.RowKit
open Go.Proofs.Ytipcdioolafkpaa.bytes Go.Proofs.Ytipcdioolafkpaa.pile Go.Proofs.Ytipcdioolafkpaa.reader Go.Proofs.Ytipcdioolafkpaa.lists Go.Proofs.Ytipcdioolafkpaa.sizes Go.Proofs.Ytipcdioolafkpaa.marked Go.Proofs.Ytipcdioolafkpaa.disks Go.Proofs.Ytipcdioolafkpaa.crashes Go.Proofs.Ytipcdioolafkpaa.acts Go.Proofs.Ytipcdioolafkpaa.diskof Go.Proofs.Ytipcdioolafkpaa.implrun
set_option linter.unusedVariables false

/-- A piece of readable bytes, its end its room's end. -/
theorem piece_rd {w : World} {ao : Option Addr} {cap : Nat} {zs : List Int} (h : RdA w (.slice ao zs.length cap) zs) {b e : Nat} (hbe : b ≤ e) (he : e ≤ zs.length) : RdA w (pieceV ao b e) ((zs.take e).drop b) := by
  obtain ⟨⟨ao', cap', ee, h1, h2, h3, h4⟩, hnil⟩ := h
  simp only [Value.slice.injEq, true_and] at ee
  obtain ⟨rfl, rfl⟩ := ee
  have hl : ((zs.take e).drop b).length = e - b := by simp; omega
  unfold pieceV
  refine ⟨⟨_, e - b, by rw [hl], by omega, by unfold maxLen at h2 ⊢; omega, fun x hx => h3 x (List.mem_of_mem_take (List.mem_of_mem_drop hx)), fun hp => ?_⟩, fun n c ec => ?_⟩
  · rw [hl] at hp
    rw [if_neg (by omega)]
    obtain ⟨g, off, rfl, hc⟩ := h4 (by omega)
    refine ⟨g, off + b, by simp [add_at], fun i hi => ?_⟩
    rw [hl] at hi
    rw [show off + b + i = off + (b + i) by omega, hc (b + i) (by omega)]
    have h5 : b + i < e := by omega
    simp [List.getD_eq_getElem?_getD, h5]
  · simp only [Value.slice.injEq] at ec ⊢
    obtain ⟨e1, _, _⟩ := ec
    have hn : ao = none := by
      by_cases hq : e = b
      · rw [if_pos hq] at e1; exact e1
      · rw [if_neg hq] at e1; simpa using e1
    subst hn
    have := hnil _ _ rfl
    simp only [Value.slice.injEq, true_and] at this
    have : e - b = 0 := by omega
    exact ⟨by rw [e1], this, this⟩

theorem take_write (xs : List Int) (cs : List (List Int)) {i : Nat} (hi : i < cs.length) : ((xs ++ cs.flatten).take (xs.length + sizeTo cs (i + 1))).drop (xs.length + sizeTo cs i) = cs.getD i [] := by
  have e1 : (xs ++ cs.flatten).take (xs.length + sizeTo cs (i + 1)) = xs ++ (cs.take (i + 1)).flatten := by
    rw [List.take_append, List.take_of_length_le (by omega)]
    congr 1
    rw [show xs.length + sizeTo cs (i + 1) - xs.length = sizeTo cs (i + 1) by omega]
    have : cs.flatten = (cs.take (i + 1)).flatten ++ (cs.drop (i + 1)).flatten := by rw [← List.flatten_append, List.take_append_drop]
    unfold sizeTo
    conv => lhs; rw [this]
    exact List.take_left
  rw [e1, flat_succ hi, ← List.append_assoc]
  have : xs.length + sizeTo cs i = (xs ++ (cs.take i).flatten).length := by rw [List.length_append]; rfl
  rw [this, List.drop_left]

/-- What the program's disk holds: its synced bytes and its writes. -/
theorem pieces_texts {w : World} {ao : Option Addr} {ca : Nat} {xs : List Int} {cs : List (List Int)} (h : RdA w (.slice ao (xs ++ cs.flatten).length ca) (xs ++ cs.flatten)) : RdA w (.slice ao xs.length xs.length) xs ∧ Texts w (piecesV ao xs.length cs cs.length) cs := by
  constructor
  · have := piece_rd h (b := 0) (e := xs.length) (by omega) (by simp)
    unfold pieceV at this
    rw [List.take_left, List.drop_zero, Nat.sub_zero] at this
    by_cases hx : xs.length = 0
    · rw [if_pos hx] at this; exact this
    · rw [if_neg hx] at this
      have e : (ao.map fun x : Addr => x.add 0) = ao := by
        cases ao with
        | none => rfl
        | some a => simp [Addr.add]
      rw [e] at this
      exact this
  · refine ⟨piecesV_length _ _ _ _, fun i hi => ?_⟩
    rw [piecesV_length] at hi
    have e : (piecesV ao xs.length cs cs.length).getD i (.slice none 0 0) = pieceV ao (xs.length + sizeTo cs i) (xs.length + sizeTo cs (i + 1)) := by simp [piecesV, List.getD_eq_getElem?_getD, hi]
    have hs := sizeTo_succ (xss := cs) (k := i) hi
    have ht := sizeTo_le cs (i + 1)
    have := piece_rd h (b := xs.length + sizeTo cs i) (e := xs.length + sizeTo cs (i + 1)) (by omega) (by rw [List.length_append]; omega)
    rw [take_write xs cs hi] at this
    rw [e]
    exact this
end Go.Proofs.Ytipcdioolafkpaa.pieces
