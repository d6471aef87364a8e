/- The records behind an index, in a list of their own. -/
import Derived.Test.YtklkglbimjajnaaClone
namespace Go.Proofs.Ytklkglbimjajnaa.behind
open Go.ChangeShapes Go.WideShapes Go.ChangeAt Go.RowKit
open Go.Proofs.Ytklkglbimjajnaa.Raft Go.Proofs.Ytklkglbimjajnaa.mem Go.Proofs.Ytklkglbimjajnaa.grp Go.Proofs.Ytklkglbimjajnaa.look Go.Proofs.Ytklkglbimjajnaa.ndw Go.Proofs.Ytklkglbimjajnaa.grant Go.Proofs.Ytklkglbimjajnaa.stand Go.Proofs.Ytklkglbimjajnaa.rows2 Go.Proofs.Ytklkglbimjajnaa.clone
set_option linter.unusedVariables false

def BehE (w : World) (M : Fz) (l : List Rc) (r : Ending) (w' : World) : Prop :=
  ∃ (M' : Fz) (o : Option Addr) (n lc : Nat), r = .returned (.slice o n lc) ∧ Le M M' ∧ In M' w' ∧ RecsM M' (.slice o n lc) l ∧ Below w.heap.size w w' ∧ ∀ b, M' b ≠ none → M b ≠ none ∨ w.heap.size ≤ b
theorem flat_drop (us : List RV) (i : Nat) : (us.flatMap recCells).drop (i * 3) = (us.drop i).flatMap recCells := by
  induction us generalizing i with
  | nil => simp
  | cons x us ih =>
    cases i with
    | zero => simp
    | succ i =>
      rw [List.drop_succ_cons, List.flatMap_cons, Nat.succ_mul, Nat.add_comm (i * 3) 3, ← List.drop_drop]
      have : (recCells x ++ us.flatMap recCells).drop 3 = us.flatMap recCells := by simp [recCells]
      rw [this, ih]
theorem beh_of {w w' : World} {M : Fz} {us : List RV} {m : Nat} (hI : In M w) (hm : us.length = m) (hd : ∀ x ∈ us, BytesM M x.dv x.r.data ∧ x.r.data.length ≤ 1000) {r : Ending} (h : CloneE w 38 3 m (us.flatMap recCells) r w') : BehE w M (us.map (·.r)) r w' := by
  obtain ⟨v, rfl, hO, hb⟩ := h
  obtain ⟨M', h1, h2, h3, h4⟩ := RowM.freeze hO (hI.below hb) (fun g hg => hI.fresh (row_lt hO hg).1)
  obtain ⟨o, c, rfl⟩ := own_slice hO
  subst hm
  exact ⟨M', o, _, c, rfl, h1, h2, ⟨us, rfl, h3, fun x hx => ⟨(hd x hx).1.le h1, (hd x hx).2⟩⟩, hb, fun b hb' => by
    rcases h4 b hb' with h5 | h5
    · exact .inl h5
    · exact .inr (row_lt hO h5).1⟩
theorem rec_ones {M : Fz} (us : List RV) (h : ∀ x ∈ us, BytesM M x.dv x.r.data ∧ x.r.data.length ≤ 1000) : ∀ y ∈ us.flatMap recCells, y.oneCell' = true := by
  intro y hy
  obtain ⟨x, hx, hy⟩ := List.mem_flatMap.1 hy
  obtain ⟨⟨⟨ao, cap, e, _⟩, _⟩, _⟩ := h x hx
  simp only [recCells, List.mem_cons, List.not_mem_nil, or_false] at hy
  rcases hy with rfl | rfl | rfl
  · rfl
  · rfl
  · rw [e]; rfl

set_option maxHeartbeats 800000 in
theorem behind_any (w : World) (M : Fz) (O : Lb) (b k : Nat) (p : Peer) (st : Sta M O w) (h : Nod w M O b k p) (i : Nat) (hi : i ≤ p.log.length) (hl : p.log.length ≤ 1000) :
    Calls Try.prog 149 #[.pointer (some ⟨b, 0, none⟩), .int .i64 i] w fun r w' => BehE w M (p.log.drop i) r w' := by
  obtain ⟨us, lv, vv, nv, mv, h⟩ := h
  have hlen : us.length = p.log.length := by rw [← h.recs]; simp
  obtain ⟨⟨_, _, c2, _⟩, _⟩ := Nd.cs h
  have hrow := h.log
  have hdm : p.log.drop i = (us.drop i).map (·.r) := by rw [← h.recs, List.map_drop]
  have hdd : ∀ x ∈ us.drop i, BytesM M x.dv x.r.data ∧ x.r.data.length ≤ 1000 := fun x hx => h.data x (List.mem_of_mem_drop hx)
  rw [hdm]
  rcases hrow with ⟨h1, ⟨rfl, e0⟩ | ⟨g, cap, cur, rfl, hb0, hh, hc, hm, hs, ht⟩⟩
  · have e1 : us = [] := List.length_eq_zero_iff.1 e0
    subst e1
    obtain rfl : i = 0 := by simp at hlen; omega
    have HC : Hid (Calls Try.prog 156 #[.slice none 0 0] w fun r w' => BehE w M ([] : List Rc) r w') := by
      refine (clone_recs_nil w).mono ?_
      intro r w' h5
      exact beh_of (us := []) st.inn rfl (by simp) h5
    clear h hdd hdm
    go_enter Try.func149, Try.ntmps149
    go_wp2_with (go_at_call 156; refine HC.out.mono ?_; rintro rr w' ⟨M', o, n, lc, rfl, q1, q2, q3, q4, q5⟩; have HQ : Hid (BehE w M ([] : List Rc) (.returned (.slice o n lc)) w') := ⟨M', o, n, lc, rfl, q1, q2, q3, q4, q5⟩; clear q1 q2 q3 q4 q5)
    go_ret
    exact HQ.out
  · have hcells : ∀ j u, (us.flatMap recCells)[j]? = some u → w.cell? ⟨g, j, none⟩ = some u := fun j u hu => by
      refine cell_of hh ?_
      have hj : j < us.length * 3 := by rw [← h1]; exact (List.getElem?_eq_some_iff.1 hu).1
      rw [← ht, List.getElem?_take_of_lt hj] at hu
      simpa using hu
    have hdl : (us.drop i).length = us.length - i := by simp
    have hfl : ((us.drop i).flatMap recCells).length = (us.length - i) * 3 := by rw [flat_len recCells 3 recCells_len, hdl]
    unfold maxLen at hm
    by_cases hci : cap = i
    · subst hci
      have hL : us.length = cap := by omega
      have hnil : us.drop cap = [] := List.drop_eq_nil_of_le (by omega)
      rw [hnil]
      have HC : Hid (Calls Try.prog 156 #[.slice (some ⟨g, 0, none⟩) 0 0] w fun r w' => BehE w M ([] : List Rc) r w') := by
        refine (clone_recs w ⟨g, 0, none⟩ 0 0 [] rfl (by simp) (by simp) (by omega)).mono ?_
        intro r w' h5
        exact beh_of (us := []) st.inn rfl (by simp) h5
      rw [hL] at c2
      clear h hdd hdm hcells hh ht hs hnil hfl hdl hL h1
      go_enter Try.func149, Try.ntmps149
      go_wp2_with (go_at_call 156; refine HC.out.mono ?_; rintro rr w' ⟨M', o, n, lc, rfl, q1, q2, q3, q4, q5⟩; have HQ : Hid (BehE w M ([] : List Rc) (.returned (.slice o n lc)) w') := ⟨M', o, n, lc, rfl, q1, q2, q3, q4, q5⟩; clear q1 q2 q3 q4 q5)
      go_ret
      exact HQ.out
    · have HC : Hid (Calls Try.prog 156 #[.slice (some ⟨g, i * 3, none⟩) (us.length - i) (cap - i)] w fun r w' => BehE w M ((us.drop i).map (·.r)) r w') := by
        refine (clone_recs w ⟨g, i * 3, none⟩ (us.length - i) (cap - i) ((us.drop i).flatMap recCells) hfl (fun j u hu => ?_) (rec_ones _ hdd) (by omega)).mono ?_
        · rw [addr_add]
          rw [← flat_drop, List.getElem?_drop] at hu
          exact hcells _ u hu
        · intro r w' h5
          exact beh_of st.inn hdl hdd h5
      have hiI : (i : Int) ≤ us.length := by omega
      have hcI : ¬ (cap = i) := hci
      generalize us.length = L at *
      have hL1 : L ≤ 1000 := by omega
      clear h hdd hdm hcells hh ht hs hfl hdl h1 hlen hi hl
      go_enter Try.func149, Try.ntmps149
      go_wp2_with (go_at_call 156; refine HC.out.mono ?_; rintro rr w' ⟨M', o, n, lc, rfl, q1, q2, q3, q4, q5⟩; have HQ : Hid (BehE w M ((us.drop i).map (·.r)) (.returned (.slice o n lc)) w') := ⟨M', o, n, lc, rfl, q1, q2, q3, q4, q5⟩; clear q1 q2 q3 q4 q5)
      go_ret
      exact HQ.out
end Go.Proofs.Ytklkglbimjajnaa.behind
