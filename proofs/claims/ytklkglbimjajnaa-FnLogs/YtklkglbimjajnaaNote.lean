/- What is held beside what was chosen, as a loop does it. -/
import Derived.Test.YtklkglbimjajnaaRaftF
namespace Go.Proofs.Ytklkglbimjajnaa.note
open Go.Proofs.Ytklkglbimjajnaa.Raft
set_option linter.unusedVariables false

/-- What is held beside what was chosen, one index after the other: the records chosen, and whether one was another. -/
def noteN (l : List Rc) : Nat → List Rc × Bool → List Rc × Bool
  | 0, s => s
  | i + 1, s =>
    let p := noteN l i s
    match l[i]? with
    | none => p
    | some r =>
      let ch := if i = p.1.length then p.1 ++ [r] else p.1
      (ch, p.2 || decide (ch[i]? ≠ some r))
theorem noteN_len (l : List Rc) (s : List Rc × Bool) : ∀ i, i ≤ l.length → s.1.length ≤ (noteN l i s).1.length ∧ i ≤ (noteN l i s).1.length
  | 0, _ => by simp [noteN]
  | i + 1, h => by
    obtain ⟨h1, h2⟩ := noteN_len l s i (by omega)
    rw [noteN, List.getElem?_eq_getElem (by omega)]
    simp only
    split
    · simp; omega
    · omega

theorem take_snoc {l : List Rc} {i : Nat} {r : Rc} (h : l[i]? = some r) : l.take (i + 1) = l.take i ++ [r] := by
  have hlt := (List.getElem?_eq_some_iff.1 h).1
  rw [List.take_succ_eq_append_getElem hlt]
  congr 2
  have := List.getElem?_eq_getElem hlt
  rw [h] at this
  exact (Option.some.inj this).symm
theorem noteN_eq (l : List Rc) (ch : List Rc) (b : Bool) : ∀ i, i ≤ l.length → noteN l i (ch, b) = (ch ++ (l.take i).drop ch.length, b || decide ((l.take i).take ch.length ≠ ch.take i))
  | 0, _ => by simp [noteN]
  | i + 1, h => by
    obtain ⟨r, hr⟩ : ∃ r, l[i]? = some r := ⟨_, List.getElem?_eq_getElem (by omega)⟩
    have hl : (l.take i).length = i := by rw [List.length_take]; omega
    rw [noteN, noteN_eq l ch b i (by omega), hr]
    simp only
    by_cases hi : i < ch.length
    · have e1 : (l.take i).drop ch.length = [] := List.drop_eq_nil_of_le (by omega)
      have e2 : (l.take (i + 1)).drop ch.length = [] := List.drop_eq_nil_of_le (by rw [List.length_take]; omega)
      have e3 : (l.take i).take ch.length = l.take i := List.take_of_length_le (by omega)
      have e4 : (l.take (i + 1)).take ch.length = l.take (i + 1) := List.take_of_length_le (by rw [List.length_take]; omega)
      obtain ⟨x, hx⟩ : ∃ x, ch[i]? = some x := ⟨_, List.getElem?_eq_getElem hi⟩
      rw [e1, e2, e3, e4, List.append_nil, if_neg (by omega), take_snoc hr, take_snoc hx, hx]
      simp only [Prod.mk.injEq, true_and, Bool.or_assoc]
      congr 1
      by_cases h1 : l.take i = ch.take i
      · rw [h1]
        by_cases h2 : x = r
        · subst h2; simp
        · have h3 : ¬ (ch.take i ++ [r] = ch.take i ++ [x]) := fun e => h2 (by simpa using (List.append_cancel_left e).symm)
          simp [h2, h3]
      · have h3 : ¬ (l.take i ++ [r] = ch.take i ++ [x]) := fun e => h1 (List.append_inj_left e (by rw [hl, List.length_take]; omega))
        simp [h1, h3]
    · have e0 : (ch ++ (l.take i).drop ch.length).length = i := by simp; omega
      have e1 : (l.take (i + 1)).drop ch.length = (l.take i).drop ch.length ++ [r] := by
        rw [take_snoc hr, List.drop_append_of_le_length (by omega)]
      have e2 : (l.take (i + 1)).take ch.length = (l.take i).take ch.length := by
        rw [take_snoc hr, List.take_append_of_le_length (by omega)]
      have e3 : ch.take (i + 1) = ch.take i := by rw [List.take_of_length_le (by omega), List.take_of_length_le (by omega)]
      have e4 : (ch ++ ((l.take i).drop ch.length) ++ [r])[i]? = some r := by
        rw [List.getElem?_append_right (by omega), e0, Nat.sub_self]; rfl
      rw [if_pos e0.symm, e1, e2, e3, e4, ← List.append_assoc]
      simp
theorem note_eq (c : Cl) (k : Nat) : c.note k = { c with chosen := (noteN ((c.at k).log.take (c.at k).commit) ((c.at k).log.take (c.at k).commit).length (c.chosen, c.conflict)).1, conflict := (noteN ((c.at k).log.take (c.at k).commit) ((c.at k).log.take (c.at k).commit).length (c.chosen, c.conflict)).2 } := by
  rw [noteN_eq _ _ _ _ (Nat.le_refl _)]
  unfold Cl.note
  simp only [List.take_length]
theorem noteN_new {l : List Rc} {s : List Rc × Bool} {i : Nat} {r : Rc} (hr : l[i]? = some r) (hi : i = (noteN l i s).1.length) : noteN l (i + 1) s = ((noteN l i s).1 ++ [r], (noteN l i s).2) := by
  rw [noteN, hr]
  simp only
  rw [if_pos hi]
  have e : ((noteN l i s).1 ++ [r])[i]? = some r := by rw [List.getElem?_append_right (by omega), ← hi, Nat.sub_self]; rfl
  rw [e]
  simp
theorem noteN_old {l : List Rc} {s : List Rc × Bool} {i : Nat} {r z : Rc} (hr : l[i]? = some r) (hi : i ≠ (noteN l i s).1.length) (hz : (noteN l i s).1[i]? = some z) : noteN l (i + 1) s = ((noteN l i s).1, (noteN l i s).2 || !decide (z = r)) := by
  rw [noteN, hr]
  simp only
  rw [if_neg hi, hz]
  simp

end Go.Proofs.Ytklkglbimjajnaa.note
