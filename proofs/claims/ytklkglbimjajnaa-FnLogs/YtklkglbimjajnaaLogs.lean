/- A log grows by a record, or is cut. -/
import Derived.Test.YtklkglbimjajnaaRows2
import Derived.Test.YtklkglbimjajnaaClone
import Derived.Test.YtklkglbimjajnaaLookc
namespace Go.Proofs.Ytklkglbimjajnaa.logs
open Go.ChangeShapes Go.WideShapes Go.ChangeAt Go.RowKit
open Go.Proofs.Ytklkglbimjajnaa.Raft Go.Proofs.Ytklkglbimjajnaa.mem Go.Proofs.Ytklkglbimjajnaa.grp Go.Proofs.Ytklkglbimjajnaa.look Go.Proofs.Ytklkglbimjajnaa.ndw Go.Proofs.Ytklkglbimjajnaa.grant Go.Proofs.Ytklkglbimjajnaa.stand Go.Proofs.Ytklkglbimjajnaa.rows2 Go.Proofs.Ytklkglbimjajnaa.clone Go.Proofs.Ytklkglbimjajnaa.lookc
set_option linter.unusedVariables false

section
variable {w W w2 : World} {M : Fz} {O : Lb} {b k : Nat} {p : Peer} {us : List RV} {lv vv nv mv : Value}
theorem NDid.push (st : Sta M O w) (h : Nd w M O b k p us lv vv nv mv) (hW : Below w.heap.size w W) {g n cap : Nat} {y : RV} (hy : BytesM M y.dv y.r.data ∧ y.r.data.length ≤ 1000)
    (hO : w2.ownsRow 0 38 3 (.slice (some ⟨g, 0, none⟩) n cap) (us.length + 1) (us.flatMap recCells ++ recCells y)) (hG : W.grownBy w2 lv.ownBlock) (hg : lv.ownBlock = some g ∨ g = W.heap.size) :
    NDid M O w b k { p with log := p.log ++ [y.r] } (w2.setCell ⟨b, 2, none⟩ (.slice (some ⟨g, 0, none⟩) n cap)) := by
  have hsz := hW.size
  have hbl := (st.ok b _ h.own).2
  have a1 : Aft (· = 3 + k) M O w M O W := (Aft.refl _ st).below hW
  have a2 : Aft (· = 3 + k) M O w M O w2 := a1.grown hG (fun x hx => ⟨3 + k, h.lab lv (by simp) x hx, rfl⟩)
  have hgl : g < w2.heap.size := (row_lt hO rfl).2
  obtain ⟨O', a3, hOg, hOx⟩ : ∃ O', Aft (· = 3 + k) M O w M O' w2 ∧ O' g = some (3 + k) ∧ ∀ x l, O x = some l → O' x = some l := by
    rcases hg with hg | hg
    · exact ⟨O, a2, h.lab lv (by simp) g hg, fun _ _ hx => hx⟩
    · refine ⟨lab O g (3 + k), a2.label (by omega) hgl (st.inn.fresh (by omega)) rfl, lab_at _ _ _, fun x l hx => ?_⟩
      rw [lab_ne O (3 + k) (by have := (st.ok x l hx).2; omega)]; exact hx
  have a4 := a3.set (b := b) (l := 3 + k) (hOx b _ h.own) rfl 2 (.slice (some ⟨g, 0, none⟩) n cap)
  obtain ⟨n1, n2, n3, n4⟩ := h.ne
  have hb2 : w2.heap[b]? = w.heap[b]? := (hG.block b (by omega) (fun e => n1 e.symm)).trans (hW.block b hbl)
  have hgb : g ≠ b := fun e => by
    rcases hg with hg | hg
    · exact n1 (e ▸ hg)
    · omega
  have hrow : ∀ {e sz : Nat} {v : Value} {m : Nat} {xs : List Value}, w.ownsRow 0 e sz v m xs → e ≠ 38 → v.ownBlock ≠ some b → (w2.setCell ⟨b, 2, none⟩ (.slice (some ⟨g, 0, none⟩) n cap)).ownsRow 0 e sz v m xs := fun hr he hne => row_kept hr fun x hx => by
    have hxl := (row_lt hr hx).2
    rw [setv_keep (g := b) x (fun e => hne (by rw [← e]; exact hx))]
    refine (hG.block x (by omega) (fun e => ?_)).trans (hW.block x hxl)
    obtain ⟨cur, hc⟩ := rowt hr hx
    exact type_ne h.log hc he e.symm
  refine ⟨M, O', a4, us ++ [y], .slice (some ⟨g, 0, none⟩) n cap, vv, nv, mv, ?_⟩
  refine ⟨?_, hOx b _ h.own, ?_, ?_, ?_, hrow h.votes (by decide) n2, hrow h.next (by decide) n3, hrow h.mat (by decide) n4, ?_, h.apart⟩
  · exact set_at (hb2.trans h.blk) 2 _ rfl
  · have h1 : w2.ownsRow 0 38 3 (.slice (some ⟨g, 0, none⟩) n cap) (us ++ [y]).length ((us ++ [y]).flatMap recCells) := by simpa using hO
    exact row_kept h1 fun x hx => setv_keep x (by
      simp only [Value.ownBlock, Option.some.injEq] at hx
      omega)
  · rw [List.map_append, h.recs]; rfl
  · intro x hx
    rcases List.mem_append.1 hx with hx | hx
    · exact h.data x hx
    · simp only [List.mem_singleton] at hx
      subst hx; exact hy
  · intro v hv x hx
    simp only [List.mem_cons, List.not_mem_nil, or_false] at hv
    rcases hv with rfl | rfl | rfl | rfl
    · simp only [Value.ownBlock, Option.some.injEq] at hx
      subst hx; exact hOg
    · exact hOx x _ (h.lab _ (by simp) x hx)
    · exact hOx x _ (h.lab _ (by simp) x hx)
    · exact hOx x _ (h.lab _ (by simp) x hx)
theorem flat_take (us : List RV) (i : Nat) : (us.flatMap recCells).take (i * 3) = (us.take i).flatMap recCells := by
  induction us generalizing i with
  | nil => simp
  | cons x us ih =>
    cases i with
    | zero => simp
    | succ i =>
      rw [List.take_succ_cons, List.flatMap_cons, List.flatMap_cons, Nat.succ_mul, List.take_append]
      have h3 : (recCells x).length = 3 := rfl
      rw [List.take_of_length_le (by omega), h3]
      congr 1
      rw [← ih]
      congr 1
theorem NDid.cut (st : Sta M O w) {lo : Option Addr} {lc : Nat} (h : Nd w M O b k p us (.slice lo us.length lc) vv nv mv) (hW : Below w.heap.size w W) (a : Nat) (ha : a < us.length) : NDid M O w b k { p with log := p.log.take a } (W.setCell ⟨b, 2, none⟩ (.slice lo a lc)) := by
  have hbl := (st.ok b _ h.own).2
  have hW1 : Nd W M O b k p us (.slice lo us.length lc) vv nv mv := h.keep (fun x hx => hW.block x (st.ok x _ hx).2) (Le.refl _) (fun _ hx => hx)
  obtain ⟨n1, n2, n3, n4⟩ := hW1.ne
  have a1 := ((Aft.refl (· = 3 + k) st).below hW).set (b := b) (l := 3 + k) h.own rfl 2 (.slice lo a lc)
  have hob : (Value.slice lo a lc).ownBlock = (Value.slice lo us.length lc).ownBlock := by cases lo <;> rfl
  have hk : ∀ {e sz : Nat} {v : Value} {m : Nat} {xs : List Value}, W.ownsRow 0 e sz v m xs → v.ownBlock ≠ some b → (W.setCell ⟨b, 2, none⟩ (.slice lo a lc)).ownsRow 0 e sz v m xs := fun hr hne => row_kept hr fun x hx => setv_keep x (fun e => hne (e ▸ hx))
  refine ⟨M, O, a1, us.take a, .slice lo a lc, vv, nv, mv, set_at hW1.blk 2 _ rfl, h.own, ?_, ?_, ?_, hk hW1.votes n2, hk hW1.next n3, hk hW1.mat n4, ?_, h.apart⟩
  · have hlog := hk hW1.log n1
    rcases hlog with ⟨h1, ⟨e1, e2⟩ | ⟨g, cap, cur, e1, hb0, hh, hc, hm, hs, ht⟩⟩
    · omega
    · simp only [Value.slice.injEq, true_and] at e1
      obtain ⟨rfl, rfl⟩ := e1
      have hla : (us.take a).length = a := by rw [List.length_take]; omega
      rw [hla]
      refine ⟨by rw [flat_len recCells 3 recCells_len, hla], .inr ⟨g, lc, cur, rfl, hb0, hh, by omega, hm, hs, ?_⟩⟩
      rw [← flat_take, ← ht, List.take_take]
      congr 1
      omega
  · rw [List.map_take, h.recs]
  · exact fun x hx => h.data x (List.mem_of_mem_take hx)
  · intro v hv x hx
    simp only [List.mem_cons, List.not_mem_nil, or_false] at hv
    rcases hv with rfl | rfl | rfl | rfl
    · rw [hob] at hx
      exact h.lab _ (by simp) x hx
    · exact h.lab _ (by simp) x hx
    · exact h.lab _ (by simp) x hx
    · exact h.lab _ (by simp) x hx
end

end Go.Proofs.Ytklkglbimjajnaa.logs
