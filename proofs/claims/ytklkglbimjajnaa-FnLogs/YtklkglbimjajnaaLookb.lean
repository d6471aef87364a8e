/- What a peer has committed is held beside what was chosen. -/
import Derived.Test.YtklkglbimjajnaaNote
import Derived.Test.YtklkglbimjajnaaSame
import Derived.Test.YtklkglbimjajnaaPostb
import Derived.Test.YtklkglbimjajnaaClone
import Derived.BigRegion
namespace Go.Proofs.Ytklkglbimjajnaa.lookb
open Go.ChangeShapes Go.WideShapes Go.ChangeAt Go.RowKit
open Go.Proofs.Ytklkglbimjajnaa.Raft Go.Proofs.Ytklkglbimjajnaa.mem Go.Proofs.Ytklkglbimjajnaa.grp Go.Proofs.Ytklkglbimjajnaa.look Go.Proofs.Ytklkglbimjajnaa.ndw Go.Proofs.Ytklkglbimjajnaa.grant Go.Proofs.Ytklkglbimjajnaa.post Go.Proofs.Ytklkglbimjajnaa.postb Go.Proofs.Ytklkglbimjajnaa.note Go.Proofs.Ytklkglbimjajnaa.same Go.Proofs.Ytklkglbimjajnaa.clone
set_option linter.unusedVariables false

section
variable {w : World} {M : Fz} {O : Lb} {d hd : Nat} {nb : List Nat} {c : Cl} {pv cv : Value} {bs : List Nat} {us : List MV} {cs : List RV}
/-- One record more is chosen. -/
theorem Gr.choose (h : Gr w M O d hd nb c pv cv bs us cs) {W w2 : World} (hW : Below w.heap.size w W) {g n cap : Nat} {y : RV} (hy : BytesM M y.dv y.r.data ∧ y.r.data.length ≤ 1000)
    (hO : w2.ownsRow 0 38 3 (.slice (some ⟨g, 0, none⟩) n cap) (cs.length + 1) (cs.flatMap recCells ++ recCells y)) (hG : W.grownBy w2 cv.ownBlock) (hg : cv.ownBlock = some g ∨ g = W.heap.size) :
    ∃ O', Aft (fun l => l < 3) M O w M O' (w2.setCell ⟨d, 3, none⟩ (.slice (some ⟨g, 0, none⟩) n cap)) ∧ Gr (w2.setCell ⟨d, 3, none⟩ (.slice (some ⟨g, 0, none⟩) n cap)) M O' d hd nb { c with chosen := c.chosen ++ [y.r] } pv (.slice (some ⟨g, 0, none⟩) n cap) bs us (cs ++ [y]) := by
  have hsz := hW.size
  have hdl := Gr.lt h
  have a1 : Aft (fun l => l < 3) M O w M O W := (Aft.refl _ h.st).below hW
  have a2 : Aft (fun l => l < 3) M O w M O w2 := a1.grown hG (fun b hb => ⟨1, h.chos.lab b hb, by decide⟩)
  have hgl : g < w2.heap.size := (row_lt hO rfl).2
  obtain ⟨O', a3, hOg, hOx⟩ : ∃ O', Aft (fun l => l < 3) M O w M O' w2 ∧ O' g = some 1 ∧ ∀ x l, O x = some l → O' x = some l := by
    rcases hg with hg | hg
    · exact ⟨O, a2, h.chos.lab g hg, fun _ _ hx => hx⟩
    · refine ⟨lab O g 1, a2.label (by omega) hgl (h.st.inn.fresh (by omega)) (by decide), lab_at _ _ _, fun x l hx => ?_⟩
      rw [lab_ne O 1 (by have := (h.st.ok x l hx).2; omega)]; exact hx
  have a4 := a3.set (b := d) (l := 0) (hOx d 0 h.own) (by decide) 3 (.slice (some ⟨g, 0, none⟩) n cap)
  have hgd : g ≠ d := fun e => by rw [e, hOx d 0 h.own] at hOg; cases hOg
  have hdc : cv.ownBlock ≠ some d := fun e => by have := h.chos.lab d e; rw [h.own] at this; cases this
  have hd2 : w2.heap[d]? = some (.cells #[.pointer (some ⟨hd, 0, none⟩), .int .i64 us.length, pv, cv, .bool c.conflict] 105 (0, 0)) := ((hG.block d (by omega) (fun e => hdc e.symm)).trans (hW.block d hdl)).trans h.blk
  refine ⟨O', a4, h.part (c' := { c with chosen := c.chosen ++ [y.r] }) a4 rfl (set_at hd2 3 _ rfl) ?_ h.nets ⟨?_, fun g' hg' => ?_, fun x hx => ?_⟩ ?_⟩
  · refine h.post.keep (fun x hx => ?_) (Le.refl _) (fun x hx => hOx x 2 hx)
    rw [Below.heap_setCell _ _ _ x (fun e => by have e : x = d := e; rw [e, h.own] at hx; cases hx)]
    exact (hG.block x (by have := (h.st.ok x 2 hx).2; omega) (fun e => by have := h.chos.lab x e.symm; rw [hx] at this; cases this)).trans (hW.block x (h.st.ok x 2 hx).2)
  · have h1 : w2.ownsRow 0 38 3 (.slice (some ⟨g, 0, none⟩) n cap) (cs ++ [y]).length ((cs ++ [y]).flatMap recCells) := by simpa using hO
    exact row_kept h1 fun g' hg' => Below.heap_setCell _ _ _ g' (by
      simp only [Value.ownBlock, Option.some.injEq] at hg'
      show g' ≠ d
      omega)
  · simp only [Value.ownBlock, Option.some.injEq] at hg'
    subst hg'; exact hOg
  · rcases List.mem_append.1 hx with hx | hx
    · exact h.chos.data x hx
    · simp only [List.mem_singleton] at hx
      subst hx; exact hy
  · rw [List.map_append, h.chosen]; rfl
/-- A conflict is noted. -/
theorem Gr.clash (h : Gr w M O d hd nb c pv cv bs us cs) : Gr (w.setCell ⟨d, 4, none⟩ (.bool true)) M O d hd nb { c with conflict := true } pv cv bs us cs ∧ Aft (fun l => l < 3) M O w M O (w.setCell ⟨d, 4, none⟩ (.bool true)) := by
  have a := (Aft.refl (fun l => l < 3) h.st).set (b := d) (l := 0) h.own (by decide) 4 (.bool true)
  refine ⟨h.part (c' := { c with conflict := true }) a rfl (set_at h.blk 4 _ rfl) ?_ h.nets ?_ h.chosen, a⟩
  · exact h.post.keep (fun x hx => Below.heap_setCell _ _ _ x (fun e => by have e : x = d := e; rw [e, h.own] at hx; cases hx)) (Le.refl _) (fun _ hx => hx)
  · exact h.chos.keep (fun x hx => Below.heap_setCell _ _ _ x (fun e => by have e : x = d := e; rw [e, h.own] at hx; cases hx)) (Le.refl _) (fun _ hx => hx)
theorem Gr.chosenCell (h : Gr w M O d hd nb c pv cv bs us cs) {i : Nat} {y : RV} (hy : cs[i]? = some y) : ∃ g cap o n lc, cv = .slice (some ⟨g, 0, none⟩) cs.length cap ∧ cap ≤ maxLen ∧ cs.length ≤ cap ∧ w.cell? ⟨g, i * 3, none⟩ = some (.int .i64 y.r.term) ∧ w.cell? ⟨g, i * 3 + 1, none⟩ = some (.int .i64 y.r.index) ∧ w.cell? ⟨g, i * 3 + 2, none⟩ = some (.slice o n lc) ∧ BytesM M (.slice o n lc) y.r.data := by
  have hlt := (List.getElem?_eq_some_iff.1 hy).1
  obtain ⟨g, cap, e, h1, h2, h3, h4⟩ := own_at h.chos.row (by omega)
  have hf := fun j hj => flat_get recCells 3 recCells_len cs i j y hy hj
  obtain ⟨q1, q2⟩ := h.chos.data y (List.mem_iff_getElem?.2 ⟨i, hy⟩)
  obtain ⟨⟨ao, cp, e2, _⟩, _⟩ := id q1
  refine ⟨g, cap, ao, _, cp, e, h2, h1, ?_, ?_, ?_, by rw [← e2]; exact q1⟩
  · have := h3 (i * 3 + 0) (.int .i64 y.r.term) (by rw [hf 0 (by decide)]; rfl)
    simpa using this
  · exact h3 (i * 3 + 1) (.int .i64 y.r.index) (by rw [hf 1 (by decide)]; rfl)
  · rw [← e2]; exact h3 (i * 3 + 2) y.dv (by rw [hf 2 (by decide)]; rfl)
end
/-- Behind a look: only what is chosen and the group's own block are written. -/
def LDid (M : Fz) (O : Lb) (w : World) (d : Nat) (nb : List Nat) (c' : Cl) (w' : World) : Prop := ∃ M' O', Aft (fun l => l < 3) M O w M' O' w' ∧ G w' M' O' d nb c'
end Go.Proofs.Ytklkglbimjajnaa.lookb
