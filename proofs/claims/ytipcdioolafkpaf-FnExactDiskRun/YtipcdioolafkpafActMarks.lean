/- Rows of acts that are marked. -/
import Derived.Test.YtipcdioolafkpafActRows
namespace Go.Proofs.Ytipcdioolafkpaf.actmarks
open Go.ChangeShapes Go.WideShapes Go.ChangeAt Go.RowKit
open Go.Proofs.Ytipcdioolafkpaf.bytes Go.Proofs.Ytipcdioolafkpaf.pile Go.Proofs.Ytipcdioolafkpaf.reader Go.Proofs.Ytipcdioolafkpaf.lists Go.Proofs.Ytipcdioolafkpaf.sizes Go.Proofs.Ytipcdioolafkpaf.marked Go.Proofs.Ytipcdioolafkpaf.disks Go.Proofs.Ytipcdioolafkpaf.crashes Go.Proofs.Ytipcdioolafkpaf.acts Go.Proofs.Ytipcdioolafkpaf.diskof Go.Proofs.Ytipcdioolafkpaf.beside Go.Proofs.Ytipcdioolafkpaf.doside Go.Proofs.Ytipcdioolafkpaf.implrun Go.Proofs.Ytipcdioolafkpaf.actrows
set_option linter.unusedVariables false

/-- Only the blocks of these values were written. -/
structure TouchV (us : List Value) (w w' : World) : Prop where
  os : w'.os = w.os
  tape : w'.tape = w.tape
  output : w'.output = w.output
  size : w.heap.size ≤ w'.heap.size
  block : ∀ k, k < w.heap.size → (∀ u ∈ us, u.ownBlock ≠ some k) → w'.heap[k]? = w.heap[k]?
theorem TouchV.refl (us : List Value) (w : World) : TouchV us w w := ⟨rfl, rfl, rfl, Nat.le_refl _, fun _ _ _ => rfl⟩
theorem TouchV.grow {us : List Value} {w w1 w2 : World} {u : Value} (h : TouchV us w w1) (hu : u ∈ us) (hg : w1.grownBy w2 u.ownBlock) : TouchV us w w2 :=
  ⟨hg.os.trans h.os, hg.tape.trans h.tape, hg.output.trans h.output, Nat.le_trans h.size hg.size, fun k hk hn => (hg.block k (by have := h.size; omega) (fun e => hn u hu e.symm)).trans (h.block k hk hn)⟩
theorem TouchV.set {us : List Value} {w w1 : World} {u : Value} (h : TouchV us w w1) (hu : u ∈ us) {a : Addr} (ha : u.ownBlock = some a.block) (x : Value) : TouchV us w (w1.setCell a x) :=
  ⟨h.os, h.tape, h.output, by simpa using h.size, fun k hk hn => by
    rw [Below.heap_setCell _ _ _ _ (fun e => hn u hu (by rw [ha, e]))]
    exact h.block k hk hn⟩
theorem TouchV.below {us : List Value} {w w' : World} {B : Nat} (h : TouchV us w w') (hB : B ≤ w.heap.size) (hl : ∀ u ∈ us, ∀ k, u.ownBlock = some k → B ≤ k) : Below B w w' :=
  ⟨h.os, h.tape, h.output, h.size, fun k hk => h.block k (by omega) (fun u hu e => by have := hl u hu k e; omega)⟩

def aAt (q : Int) (al : List Act4) (j : Nat) : Int := q + (3 * j : Nat) + (sumTo al j : Nat)
theorem aAt_succ {q : Int} {al : List Act4} {j : Nat} (h : j < al.length) : aAt q al (j + 1) = aAt q al j + 1 + 1 + 1 + (al.getD j ⟨0, 0, 0, []⟩).data.length := by
  unfold aAt
  rw [sumTo_succ h]
  omega
theorem aAt_bd {q : Int} {al : List Act4} {j : Nat} (h0 : 0 ≤ q) (h : j < al.length) (hq : aAt q al al.length ≤ 4611686018427387904) : 0 ≤ aAt q al j ∧ aAt q al j + 1 + 1 + 1 + (al.getD j ⟨0, 0, 0, []⟩).data.length ≤ 4611686018427387904 := by
  rw [← aAt_succ h]
  have h1 := sumTo_le al (j + 1)
  unfold aAt at hq ⊢
  omega
theorem get3_other {cur : Array Value} {p m : Nat} {a b c : Value} (h : m ≠ p ∧ m ≠ p + 1 ∧ m ≠ p + 2) : (((cur.setIfInBounds p a).setIfInBounds (p + 1) b).setIfInBounds (p + 2) c)[m]? = cur[m]? := by
  rw [Array.getElem?_setIfInBounds_ne (by omega), Array.getElem?_setIfInBounds_ne (by omega), Array.getElem?_setIfInBounds_ne (by omega)]
theorem set_get {al : List Act4} {k j : Nat} {r : Act4} (hk : k < al.length) : (al.set k r).getD j ⟨0, 0, 0, []⟩ = if j = k then r else al.getD j ⟨0, 0, 0, []⟩ := by
  by_cases e : j = k
  · subst e
    simp [List.getD_eq_getElem?_getD, hk]
  · rw [if_neg e]
    simp [List.getD_eq_getElem?_getD, List.getElem?_set_ne (fun h => e h.symm)]

/-- One act more is marked. -/
theorem marked {wr w2 : World} {base g off cap : Nat} {al : List Act4} {us : List Value} {k : Nat} {cur : Array Value} {x y z : Int} {ds : List Int}
    (h : OwnActs wr base (.slice (some ⟨g, off, none⟩) al.length cap) al us) (hk : k < al.length) (hg : wr.heap[g]? = some (.cells cur 74 (0, 0))) (hb : base ≤ g)
    (hc : ∀ j, j < al.length → cur[off + j * 4]? = some (.int .i64 (al.getD j ⟨0, 0, 0, []⟩).kind) ∧ cur[off + j * 4 + 1]? = some (.int .i64 (al.getD j ⟨0, 0, 0, []⟩).keep) ∧ cur[off + j * 4 + 2]? = some (.int .i64 (al.getD j ⟨0, 0, 0, []⟩).torn) ∧ cur[off + j * 4 + 3]? = some (us.getD j (.slice none 0 0)))
    (hO : Own w2 base (us.getD k (.slice none 0 0)) ds) (hgr : (((wr.setCell ⟨g, off + k * 4, none⟩ (.int .i64 x)).setCell ⟨g, off + k * 4 + 1, none⟩ (.int .i64 y)).setCell ⟨g, off + k * 4 + 2, none⟩ (.int .i64 z)).grownBy w2 (us.getD k (.slice none 0 0)).ownBlock) :
    OwnActs w2 base (.slice (some ⟨g, off, none⟩) al.length cap) (al.set k ⟨x, y, z, ds⟩) us := by
  have e0 := heap_setCell_same wr g (off + k * 4) cur 74 (.int .i64 x) hg
  have e1 := heap_setCell_same _ g (off + k * 4 + 1) _ 74 (.int .i64 y) e0
  have e1' := heap_setCell_same _ g (off + k * 4 + 2) _ 74 (.int .i64 z) e1
  have hne : (us.getD k (.slice none 0 0)).ownBlock ≠ some g := own_other (h.each k hk).2 hg (by decide)
  have e2 := (hgr.block g (by have := (Array.getElem?_eq_some_iff.1 hg).1; simpa using this) (fun e => hne e.symm)).trans e1'
  refine ⟨by rw [List.length_set]; exact h.len, ⟨some ⟨g, off, none⟩, cap, by rw [List.length_set], ?_, ?_, fun _ => ⟨g, off, _, rfl, hb, e2, fun j hj => ?_⟩⟩, fun j hj => ?_, fun i j hi hj => ?_⟩
  · obtain ⟨ao, cap', e, h1, h2, _⟩ := h.row
    simp only [Value.slice.injEq] at e
    rw [List.length_set]
    omega
  · obtain ⟨ao, cap', e, h1, h2, _⟩ := h.row
    simp only [Value.slice.injEq] at e
    omega
  · rw [List.length_set] at hj
    rw [set_get hk]
    obtain ⟨c0, c1, c2, c3⟩ := hc j hj
    have hsz := (Array.getElem?_eq_some_iff.1 (hc k hk).2.2.2).1
    by_cases e : j = k
    · subst e
      rw [if_pos rfl]
      refine ⟨?_, ?_, ?_, ?_⟩
      · rw [Array.getElem?_setIfInBounds_ne (by omega), Array.getElem?_setIfInBounds_ne (by omega), Array.getElem?_setIfInBounds_self_of_lt (by omega)]
      · rw [Array.getElem?_setIfInBounds_ne (by omega), Array.getElem?_setIfInBounds_self_of_lt (by simp; omega)]
      · rw [Array.getElem?_setIfInBounds_self_of_lt (by simp; omega)]
      · rw [get3_other (by omega)]; exact c3
    · rw [if_neg e, get3_other (by omega), get3_other (by omega), get3_other (by omega), get3_other (by omega)]
      exact ⟨c0, c1, c2, c3⟩
  · rw [List.length_set] at hj
    rw [set_get hk]
    by_cases e : j = k
    · subst e
      rw [if_pos rfl]
      exact hO
    · rw [if_neg e]
      have ho := h.each j hj
      have hnj : (us.getD j (.slice none 0 0)).ownBlock ≠ some g := own_other ho.2 hg (by decide)
      have h2 := own_setCell (own_setCell (own_setCell ho (a := ⟨g, off + k * 4, none⟩) hnj (.int .i64 x)) (a := ⟨g, off + k * 4 + 1, none⟩) hnj (.int .i64 y)) (a := ⟨g, off + k * 4 + 2, none⟩) hnj (.int .i64 z)
      refine ⟨h2.1, World.ownsRow.kept h2.2 hgr ?_⟩
      cases hv : (us.getD j (.slice none 0 0)).ownBlock with
      | none => exact .inl rfl
      | some b => exact .inr fun e' => h.apart j k hj hk e b hv e'.symm
  · rw [List.length_set] at hi hj
    exact h.apart i j hi hj

set_option maxRecDepth 20000 in
set_option maxHeartbeats 2000000 in
theorem markActS_own (w : World) (base : Nat) (v : Value) (al : List Act4) (us : List Value) (q : Int) (h0 : 0 ≤ q) (hq : aAt q al al.length ≤ 4611686018427387904) (h : OwnActs w base v al us) :
    Calls Try.prog 33 #[v, .int .i64 q] w fun e w' => e = .returned (.int .i64 (aAt q al al.length)) ∧ TouchV (v :: us) w w' := by
  have HO : Hid (OwnActs w base v al us) := h
  have HQ : Hid (aAt q al al.length ≤ 4611686018427387904) := hq
  have HLen : Hid (us.length = al.length) := h.len
  obtain ⟨ao, ca, rfl, ha1, ha2, _⟩ := h.row
  clear h hq
  unfold maxLen at ha2
  have hq0 : aAt q al 0 = q := by simp [aAt, sumTo]
  go_enter Try.func33, Try.ntmps33
  go_wp2
  go_loopw [1, 5] (fun q' i wr => ∃ (k : Nat) (al2 : List Act4), k ≤ al.length ∧ i = .int .i64 k ∧ q' = .int .i64 (aAt q al k) ∧ Hid (OwnActs wr base (.slice ao al.length ca) al2 us ∧ al2.length = al.length ∧ (∀ j, k ≤ j → al2.getD j ⟨0, 0, 0, []⟩ = al.getD j ⟨0, 0, 0, []⟩) ∧ TouchV (.slice ao al.length ca :: us) w wr)) (fun _ i _ => al.length - (intOf i).toNat)
  case atStart => exact ⟨0, al, by omega, rfl, by rw [hq0], hide ⟨HO.out, rfl, fun _ _ => rfl, TouchV.refl _ _⟩⟩
  case round =>
    obtain ⟨k, al2, hk, rfl, rfl, HR⟩ := hrel
    by_cases hlt : k < al.length
    · have hlt2 : k < al2.length := by rw [HR.out.2.1]; exact hlt
      obtain ⟨g, off, cur, hao, hbg, hg, hc0⟩ : ∃ g off cur, ao = some ⟨g, off, none⟩ ∧ base ≤ g ∧ wr.heap[g]? = some (.cells cur 74 (0, 0)) ∧ ∀ j, j < al2.length → cur[off + j * 4]? = some (.int .i64 (al2.getD j ⟨0, 0, 0, []⟩).kind) ∧ cur[off + j * 4 + 1]? = some (.int .i64 (al2.getD j ⟨0, 0, 0, []⟩).keep) ∧ cur[off + j * 4 + 2]? = some (.int .i64 (al2.getD j ⟨0, 0, 0, []⟩).torn) ∧ cur[off + j * 4 + 3]? = some (us.getD j (.slice none 0 0)) := by
        obtain ⟨ao', ca', e, _, _, h4⟩ := HR.out.1.row
        simp only [Value.slice.injEq] at e
        obtain ⟨rfl, _, rfl⟩ := e
        obtain ⟨g, off, cur, rfl, hbg, hg, hc⟩ := h4 (by omega)
        exact ⟨g, off, cur, rfl, hbg, hg, hc⟩
      subst hao
      obtain ⟨x0, x1, x2, x3⟩ := hc0 k hlt2
      have c0 := cell_of hg x0
      have c1 := cell_of hg x1
      have c2 := cell_of hg x2
      have f0 := frozen_of hg (off + k * 4)
      have f1 := frozen_of hg (off + k * 4 + 1)
      have f2 := frozen_of hg (off + k * 4 + 2)
      have hbd := aAt_bd h0 hlt HQ.out
      have hOk := HR.out.1.each k hlt2
      rw [HR.out.2.2.1 k (Nat.le_refl _)] at hOk
      have e0 := heap_setCell_same wr g (off + k * 4) cur 74 (.int .i64 (aAt q al k)) hg
      have e1 := heap_setCell_same _ g (off + k * 4 + 1) _ 74 (.int .i64 (aAt q al k + 1)) e0
      have e2 := heap_setCell_same _ g (off + k * 4 + 2) _ 74 (.int .i64 (aAt q al k + 1 + 1)) e1
      have c3 : (((wr.setCell ⟨g, off + k * 4, none⟩ (.int .i64 (aAt q al k))).setCell ⟨g, off + k * 4 + 1, none⟩ (.int .i64 (aAt q al k + 1))).setCell ⟨g, off + k * 4 + 2, none⟩ (.int .i64 (aAt q al k + 1 + 1))).cell? ⟨g, off + k * 4 + 3, none⟩ = some (us.getD k (.slice none 0 0)) := cell_of e2 (by rw [get3_other (by omega)]; exact x3)
      have hne : (us.getD k (.slice none 0 0)).ownBlock ≠ some g := own_other hOk.2 hg (by decide)
      have hO1 := own_setCell (own_setCell (own_setCell hOk (a := ⟨g, off + k * 4, none⟩) hne (.int .i64 (aAt q al k))) (a := ⟨g, off + k * 4 + 1, none⟩) hne (.int .i64 (aAt q al k + 1))) (a := ⟨g, off + k * 4 + 2, none⟩) hne (.int .i64 (aAt q al k + 1 + 1))
      have hmem : (us.getD k (.slice none 0 0)) ∈ (Value.slice (some ⟨g, off, none⟩) al.length ca :: us) := by
        have hl : k < us.length := by rw [HLen.out]; exact hlt
        have : (us.getD k (.slice none 0 0)) = us[k] := by simp [List.getD_eq_getElem?_getD, hl]
        rw [this]
        exact List.mem_cons_of_mem _ (List.getElem_mem hl)
      have HNext : Hid (∀ w2 ds, Own w2 base (us.getD k (.slice none 0 0)) ds → (((wr.setCell ⟨g, off + k * 4, none⟩ (.int .i64 (aAt q al k))).setCell ⟨g, off + k * 4 + 1, none⟩ (.int .i64 (aAt q al k + 1))).setCell ⟨g, off + k * 4 + 2, none⟩ (.int .i64 (aAt q al k + 1 + 1))).grownBy w2 (us.getD k (.slice none 0 0)).ownBlock → ∃ al3, OwnActs w2 base (.slice (some ⟨g, off, none⟩) al.length ca) al3 us ∧ al3.length = al.length ∧ (∀ j, k + 1 ≤ j → al3.getD j ⟨0, 0, 0, []⟩ = al.getD j ⟨0, 0, 0, []⟩) ∧ TouchV (.slice (some ⟨g, off, none⟩) al.length ca :: us) w w2) := fun w2 ds hO hgr => by
        have hR := HR.out.1
        rw [← HR.out.2.1] at hR
        have hM := marked hR hlt2 hg hbg hc0 hO hgr
        rw [HR.out.2.1] at hM
        refine ⟨_, hM, by rw [List.length_set]; exact HR.out.2.1, fun j hj => ?_, ((((HR.out.2.2.2.set (u := .slice (some ⟨g, off, none⟩) al.length ca) (List.mem_cons_self) (a := ⟨g, off + k * 4, none⟩) rfl _).set (u := .slice (some ⟨g, off, none⟩) al.length ca) (List.mem_cons_self) (a := ⟨g, off + k * 4 + 1, none⟩) rfl _)).set (u := .slice (some ⟨g, off, none⟩) al.length ca) (List.mem_cons_self) (a := ⟨g, off + k * 4 + 2, none⟩) rfl _).grow hmem hgr⟩
        rw [set_get hlt2, if_neg (by omega)]
        exact HR.out.2.2.1 j (by omega)
      have HM := hide (mark_own _ base _ (aAt q al k + 1 + 1 + 1) _ (by omega) (by omega) hO1)
      have HSucc : Hid (aAt q al (k + 1) = aAt q al k + 1 + 1 + 1 + (al.getD k ⟨0, 0, 0, []⟩).data.length) := aAt_succ hlt
      clear hc0 x0 x1 x2 x3 e0 e1 e2 hO1 hOk hmem hne hg HR
      obtain ⟨u, hu⟩ : ∃ u, u = (us.getD k (.slice none 0 0)) := ⟨_, rfl⟩
      rw [← hu] at c3 HNext HM
      clear hu
      generalize (al.getD k ⟨0, 0, 0, []⟩).data.length = L at HM hbd HSucc
      generalize al2.getD k ⟨0, 0, 0, []⟩ = rk at c0 c1 c2
      generalize aAt q al k = m at c3 HM HNext hbd HSucc ⊢
      go_wp2_with fail
      refine HM.out.mono ?_
      rintro e w2 ⟨rfl, O2, g2⟩
      obtain ⟨al3, HN⟩ := HNext.out w2 _ O2 g2
      have HN' := hide HN
      clear O2 g2 HM HNext c0 c1 c2 c3 f0 f1 f2 HN
      go_wp2
      go_roundw
      case rel => exact ⟨k + 1, al3, by omega, by go_num, by rw [HSucc.out], HN'⟩
      case measure => simp [intOf]; omega
    · obtain rfl : k = al.length := by omega
      go_wp2
      go_ret
      exact ⟨rfl, HR.out.2.2.2⟩
end Go.Proofs.Ytipcdioolafkpaf.actmarks
