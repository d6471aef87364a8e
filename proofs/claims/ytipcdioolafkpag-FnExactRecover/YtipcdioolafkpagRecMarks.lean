/- Rows of records that are marked, and held against their marks. -/
import Derived.Test.YtipcdioolafkpagRecRows
namespace Go.Proofs.Ytipcdioolafkpag.recmarks
open Go.ChangeShapes Go.WideShapes Go.ChangeAt Go.RowKit
open Go.Proofs.Ytipcdioolafkpag.bytes Go.Proofs.Ytipcdioolafkpag.pile Go.Proofs.Ytipcdioolafkpag.put Go.Proofs.Ytipcdioolafkpag.crcs Go.Proofs.Ytipcdioolafkpag.join Go.Proofs.Ytipcdioolafkpag.frames Go.Proofs.Ytipcdioolafkpag.votes Go.Proofs.Ytipcdioolafkpag.pays Go.Proofs.Ytipcdioolafkpag.rechelp Go.Proofs.Ytipcdioolafkpag.recrows
set_option linter.unusedVariables false

/-- Only the blocks of these values were written. -/
structure TouchV (us : List Value) (w w' : World) : Prop where
  os : w'.os = w.os
  tape : w'.tape = w.tape
  output : w'.output = w.output
  size : w.heap.size ≤ w'.heap.size
  block : ∀ k, k < w.heap.size → (∀ u ∈ us, u.ownBlock ≠ some k) → w'.heap[k]? = w.heap[k]?
theorem TouchV.refl (us : List Value) (w : World) : TouchV us w w := ⟨rfl, rfl, rfl, Nat.le_refl _, fun _ _ _ => rfl⟩
theorem TouchV.grow {us : List Value} {w w1 w2 : World} {u : Value} (h : TouchV us w w1) (hu : u ∈ us) (hg : w1.grownBy w2 u.ownBlock) : TouchV us w w2 :=
  ⟨hg.os.trans h.os, hg.tape.trans h.tape, hg.output.trans h.output, Nat.le_trans h.size hg.size, fun k hk hn => (hg.block k (by have := h.size; omega) (fun e => hn u hu e.symm)).trans (h.block k hk hn)⟩
theorem TouchV.set {us : List Value} {w w1 : World} {u : Value} (h : TouchV us w w1) (hu : u ∈ us) {a : Addr} (ha : u.ownBlock = some a.block) (x : Value) : TouchV us w (w1.setCell a x) :=
  ⟨h.os, h.tape, h.output, by simpa using h.size, fun k hk hn => by
    rw [Below.heap_setCell _ _ _ _ (fun e => hn u hu (by rw [ha, e]))]
    exact h.block k hk hn⟩
theorem TouchV.below {us : List Value} {w w' : World} {B : Nat} (h : TouchV us w w') (hB : B ≤ w.heap.size) (hl : ∀ u ∈ us, ∀ k, u.ownBlock = some k → B ≤ k) : Below B w w' :=
  ⟨h.os, h.tape, h.output, h.size, fun k hk => h.block k (by omega) (fun u hu e => by have := hl u hu k e; omega)⟩
theorem TouchV.own {us : List Value} {w w' : World} {base : Nat} {v : Value} {xs : List Int} (h : TouchV us w w') (ho : Own w base v xs) (hne : ∀ u ∈ us, ∀ k, u.ownBlock = some k → v.ownBlock ≠ some k) : Own w' base v xs := by
  refine ⟨ho.1, ?_⟩
  obtain ⟨h1, h2 | ⟨g, cap, cur, rfl, hbg, hg, r⟩⟩ := ho.2
  · exact ⟨h1, .inl h2⟩
  · exact ⟨h1, .inr ⟨g, cap, cur, rfl, hbg, (h.block g (Array.getElem?_eq_some_iff.1 hg).1 (fun u hu e => hne u hu g e rfl)).trans hg, r⟩⟩

/-- Where the marks of record j begin. -/
def mAt (q : Int) (rl : List Rec3) (j : Nat) : Int := q + (2 * j : Nat) + (sumTo rl j : Nat)
theorem mAt_succ {q : Int} {rl : List Rec3} {j : Nat} (h : j < rl.length) : mAt q rl (j + 1) = mAt q rl j + 1 + 1 + (rl.getD j zRec).d.length := by
  unfold mAt
  rw [sumTo_succ h]
  omega
theorem mAt_bd {q : Int} {rl : List Rec3} {j : Nat} (h0 : 0 ≤ q) (h : j < rl.length) (hq : mAt q rl rl.length ≤ 4611686018427387904) : 0 ≤ mAt q rl j ∧ mAt q rl j + 1 + 1 + (rl.getD j zRec).d.length ≤ 4611686018427387904 := by
  rw [← mAt_succ h]
  have h1 := sumTo_le rl (j + 1)
  unfold mAt at hq ⊢
  omega
/-- The records as they are when the first k of them are marked. -/
def mkR (q : Int) (rl : List Rec3) (k j : Nat) : Rec3 := if j < k then ⟨mAt q rl j, mAt q rl j + 1, marks (mAt q rl j + 1 + 1) (rl.getD j zRec).d.length⟩ else rl.getD j zRec
def mkL (q : Int) (rl : List Rec3) (k : Nat) : List Rec3 := (List.range rl.length).map (mkR q rl k)
theorem mkL_len (q : Int) (rl : List Rec3) (k : Nat) : (mkL q rl k).length = rl.length := by simp [mkL]
theorem mkL_get {q : Int} {rl : List Rec3} {k j : Nat} (h : j < rl.length) : (mkL q rl k).getD j zRec = mkR q rl k j := by simp [mkL, List.getD_eq_getElem?_getD, h]
theorem mkL_zero (q : Int) (rl : List Rec3) : mkL q rl 0 = rl := by
  apply List.ext_getElem?
  intro j
  by_cases h : j < rl.length
  · simp [mkL, mkR, h, List.getD_eq_getElem?_getD]
  · simp [mkL, h]
theorem mkR_out {q : Int} {rl : List Rec3} {k j : Nat} (h : j ≠ k) : mkR q rl (k + 1) j = mkR q rl k j := by
  unfold mkR
  by_cases e : j < k
  · rw [if_pos (by omega), if_pos e]
  · rw [if_neg (by omega), if_neg e]
theorem mkR_now (q : Int) (rl : List Rec3) (k : Nat) : mkR q rl k k = rl.getD k zRec := by rw [mkR, if_neg (by omega)]
theorem mkR_done (q : Int) (rl : List Rec3) (k : Nat) : mkR q rl (k + 1) k = ⟨mAt q rl k, mAt q rl k + 1, marks (mAt q rl k + 1 + 1) (rl.getD k zRec).d.length⟩ := by rw [mkR, if_pos (by omega)]

theorem get2_other {cur : Array Value} {p m : Nat} {a b : Value} (h : m ≠ p ∧ m ≠ p + 1) : ((cur.setIfInBounds p a).setIfInBounds (p + 1) b)[m]? = cur[m]? := by
  rw [Array.getElem?_setIfInBounds_ne (by omega), Array.getElem?_setIfInBounds_ne (by omega)]

/-- One record more is marked. -/
theorem marked {wr w2 : World} {base g off : Nat} {cap : Nat} {rl : List Rec3} {us : List Value} {q : Int} {k : Nat} {cur : Array Value}
    (h : OwnRecs wr base (.slice (some ⟨g, off, none⟩) rl.length cap) (mkL q rl k) us) (hk : k < rl.length) (hg : wr.heap[g]? = some (.cells cur 43 (0, 0))) (hb : base ≤ g)
    (hc : ∀ j, j < rl.length → cur[off + j * 3]? = some (.int .i64 (mkR q rl k j).t) ∧ cur[off + j * 3 + 1]? = some (.int .i64 (mkR q rl k j).i) ∧ cur[off + j * 3 + 2]? = some (us.getD j (.slice none 0 0)))
    (hO : Own w2 base (us.getD k (.slice none 0 0)) (marks (mAt q rl k + 1 + 1) (rl.getD k zRec).d.length))
    (hgr : ((wr.setCell ⟨g, off + k * 3, none⟩ (.int .i64 (mAt q rl k))).setCell ⟨g, off + k * 3 + 1, none⟩ (.int .i64 (mAt q rl k + 1))).grownBy w2 (us.getD k (.slice none 0 0)).ownBlock) :
    OwnRecs w2 base (.slice (some ⟨g, off, none⟩) rl.length cap) (mkL q rl (k + 1)) us := by
  have e0 := heap_setCell_same wr g (off + k * 3) cur 43 (.int .i64 (mAt q rl k)) hg
  have e1 := heap_setCell_same _ g (off + k * 3 + 1) _ 43 (.int .i64 (mAt q rl k + 1)) e0
  have hne : (us.getD k (.slice none 0 0)).ownBlock ≠ some g := by
    have := h.each k (by rw [mkL_len]; exact hk)
    exact own_other this.2 hg (by decide)
  have e2 : w2.heap[g]? = some (.cells ((cur.setIfInBounds (off + k * 3) (.int .i64 (mAt q rl k))).setIfInBounds (off + k * 3 + 1) (.int .i64 (mAt q rl k + 1))) 43 (0, 0)) :=
    (hgr.block g (by have := (Array.getElem?_eq_some_iff.1 hg).1; simpa using this) (fun e => hne e.symm)).trans e1
  refine ⟨by rw [mkL_len]; have := h.len; rwa [mkL_len] at this, ⟨some ⟨g, off, none⟩, cap, by rw [mkL_len], ?_, ?_, fun _ => ⟨g, off, _, rfl, hb, e2, fun j hj => ?_⟩⟩, fun j hj => ?_, fun i j hi hj => ?_⟩
  · obtain ⟨ao, cap', e, h1, h2, _⟩ := h.row
    simp only [Value.slice.injEq] at e
    rw [mkL_len] at h1 ⊢
    omega
  · obtain ⟨ao, cap', e, h1, h2, _⟩ := h.row
    simp only [Value.slice.injEq] at e
    omega
  · rw [mkL_len] at hj
    rw [mkL_get hj]
    obtain ⟨c0, c1, c2⟩ := hc j hj
    have hsz := (Array.getElem?_eq_some_iff.1 (hc k hk).2.2).1
    by_cases e : j = k
    · subst e
      rw [mkR_done]
      refine ⟨?_, ?_, ?_⟩
      · rw [Array.getElem?_setIfInBounds_ne (by omega), Array.getElem?_setIfInBounds_self_of_lt (by omega)]
      · rw [Array.getElem?_setIfInBounds_self_of_lt (by simp; omega)]
      · rw [get2_other (by omega)]; exact c2
    · rw [mkR_out e, get2_other (by omega), get2_other (by omega), get2_other (by omega)]
      exact ⟨c0, c1, c2⟩
  · rw [mkL_len] at hj
    rw [mkL_get hj]
    by_cases e : j = k
    · subst e
      rw [mkR_done]
      exact hO
    · rw [mkR_out e]
      have ho := h.each j (by rw [mkL_len]; exact hj)
      rw [mkL_get hj] at ho
      have hnj : (us.getD j (.slice none 0 0)).ownBlock ≠ some g := own_other ho.2 hg (by decide)
      have h2 := own_setCell (own_setCell ho (a := ⟨g, off + k * 3, none⟩) hnj (.int .i64 (mAt q rl k))) (a := ⟨g, off + k * 3 + 1, none⟩) hnj (.int .i64 (mAt q rl k + 1))
      refine ⟨h2.1, World.ownsRow.kept h2.2 hgr ?_⟩
      cases hv : (us.getD j (.slice none 0 0)).ownBlock with
      | none => exact .inl rfl
      | some b =>
        refine .inr fun e' => ?_
        exact h.apart j k (by rw [mkL_len]; exact hj) (by rw [mkL_len]; exact hk) e b hv e'.symm
  · rw [mkL_len] at hi hj
    exact h.apart i j (by rw [mkL_len]; exact hi) (by rw [mkL_len]; exact hj)

set_option maxRecDepth 20000 in
set_option maxHeartbeats 2000000 in
theorem markRecS_own (w : World) (base : Nat) (v : Value) (rl : List Rec3) (us : List Value) (q : Int) (h0 : 0 ≤ q) (hq : mAt q rl rl.length ≤ 4611686018427387904) (h : OwnRecs w base v rl us) :
    Calls Try.prog 59 #[v, .int .i64 q] w fun e w' => e = .returned (.int .i64 (mAt q rl rl.length)) ∧ OwnRecs w' base v (mkL q rl rl.length) us ∧ TouchV (v :: us) w w' := by
  have HO : Hid (OwnRecs w base v (mkL q rl 0) us) := by rw [mkL_zero]; exact h
  have HQ : Hid (mAt q rl rl.length ≤ 4611686018427387904) := hq
  have HLen : Hid (us.length = rl.length) := h.len
  obtain ⟨ao, ca, rfl, ha1, ha2, _⟩ := h.row
  clear h hq
  unfold maxLen at ha2
  have hq0 : mAt q rl 0 = q := by simp [mAt, sumTo]
  go_enter Try.func59, Try.ntmps59
  go_wp2
  go_loopw [1, 5] (fun q' i wr => ∃ k : Nat, k ≤ rl.length ∧ i = .int .i64 k ∧ q' = .int .i64 (mAt q rl k) ∧ Hid (OwnRecs wr base (.slice ao rl.length ca) (mkL q rl k) us ∧ TouchV (.slice ao rl.length ca :: us) w wr)) (fun _ i _ => rl.length - (intOf i).toNat)
  case atStart => exact ⟨0, by omega, rfl, by rw [hq0], hide ⟨HO.out, TouchV.refl _ _⟩⟩
  case round =>
    obtain ⟨k, hk, rfl, rfl, HR⟩ := hrel
    by_cases hlt : k < rl.length
    · obtain ⟨g, off, cur, hao, hbg, hg, hc0⟩ : ∃ g off cur, ao = some ⟨g, off, none⟩ ∧ base ≤ g ∧ wr.heap[g]? = some (.cells cur 43 (0, 0)) ∧ ∀ j, j < rl.length → cur[off + j * 3]? = some (.int .i64 (mkR q rl k j).t) ∧ cur[off + j * 3 + 1]? = some (.int .i64 (mkR q rl k j).i) ∧ cur[off + j * 3 + 2]? = some (us.getD j (.slice none 0 0)) := by
        obtain ⟨ao', ca', e, _, _, h4⟩ := HR.out.1.row
        rw [mkL_len] at e h4
        simp only [Value.slice.injEq] at e
        obtain ⟨rfl, _, rfl⟩ := e
        obtain ⟨g, off, cur, rfl, hbg, hg, hc⟩ := h4 (by omega)
        exact ⟨g, off, cur, rfl, hbg, hg, fun j hj => by have := hc j hj; rwa [mkL_get hj] at this⟩
      subst hao
      obtain ⟨x0, x1, x2⟩ := hc0 k hlt
      have c0 := cell_of hg x0
      have c1 := cell_of hg x1
      have f0 := frozen_of hg (off + k * 3)
      have f1 := frozen_of hg (off + k * 3 + 1)
      have hbd := mAt_bd h0 hlt HQ.out
      have hOk := HR.out.1.each k (by rw [mkL_len]; exact hlt)
      rw [mkL_get hlt, mkR_now] at hOk
      have e0 := heap_setCell_same wr g (off + k * 3) cur 43 (.int .i64 (mAt q rl k)) hg
      have e1 := heap_setCell_same _ g (off + k * 3 + 1) _ 43 (.int .i64 (mAt q rl k + 1)) e0
      have c2 : ((wr.setCell ⟨g, off + k * 3, none⟩ (.int .i64 (mAt q rl k))).setCell ⟨g, off + k * 3 + 1, none⟩ (.int .i64 (mAt q rl k + 1))).cell? ⟨g, off + k * 3 + 2, none⟩ = some (us.getD k (.slice none 0 0)) := cell_of e1 (by rw [get2_other (by omega)]; exact x2)
      have hne : (us.getD k (.slice none 0 0)).ownBlock ≠ some g := own_other hOk.2 hg (by decide)
      have hO1 := own_setCell (own_setCell hOk (a := ⟨g, off + k * 3, none⟩) hne (.int .i64 (mAt q rl k))) (a := ⟨g, off + k * 3 + 1, none⟩) hne (.int .i64 (mAt q rl k + 1))
      have hmem : (us.getD k (.slice none 0 0)) ∈ (Value.slice (some ⟨g, off, none⟩) rl.length ca :: us) := by
        have hl : k < us.length := by rw [HLen.out]; exact hlt
        have : (us.getD k (.slice none 0 0)) = us[k] := by simp [List.getD_eq_getElem?_getD, hl]
        rw [this]
        exact List.mem_cons_of_mem _ (List.getElem_mem hl)
      have HNext : Hid (∀ w2, Own w2 base (us.getD k (.slice none 0 0)) (marks (mAt q rl k + 1 + 1) (rl.getD k zRec).d.length) → ((wr.setCell ⟨g, off + k * 3, none⟩ (.int .i64 (mAt q rl k))).setCell ⟨g, off + k * 3 + 1, none⟩ (.int .i64 (mAt q rl k + 1))).grownBy w2 (us.getD k (.slice none 0 0)).ownBlock → OwnRecs w2 base (.slice (some ⟨g, off, none⟩) rl.length ca) (mkL q rl (k + 1)) us ∧ TouchV (.slice (some ⟨g, off, none⟩) rl.length ca :: us) w w2) := fun w2 hO hgr =>
        ⟨marked HR.out.1 hlt hg hbg hc0 hO hgr, (((HR.out.2.set (u := .slice (some ⟨g, off, none⟩) rl.length ca) (List.mem_cons_self) (a := ⟨g, off + k * 3, none⟩) rfl _).set (u := .slice (some ⟨g, off, none⟩) rl.length ca) (List.mem_cons_self) (a := ⟨g, off + k * 3 + 1, none⟩) rfl _)).grow hmem hgr⟩
      have HM := hide (mark_own _ base _ (mAt q rl k + 1 + 1) _ (by omega) (by omega) hO1)
      have HSucc : Hid (mAt q rl (k + 1) = mAt q rl k + 1 + 1 + (rl.getD k zRec).d.length) := mAt_succ hlt
      clear hc0 x0 x1 x2 e0 e1 hO1 hOk hmem hne hg HR
      obtain ⟨u, hu⟩ : ∃ u, u = (us.getD k (.slice none 0 0)) := ⟨_, rfl⟩
      rw [← hu] at c2 HNext HM
      clear hu
      generalize (rl.getD k zRec).d.length = L at HM HNext hbd HSucc
      generalize mkR q rl k k = rk at c0 c1
      generalize mAt q rl k = m at c2 HM HNext hbd HSucc ⊢
      go_wp2_with fail
      refine HM.out.mono ?_
      rintro e w2 ⟨rfl, O2, g2⟩
      have HN := hide (HNext.out w2 O2 g2)
      clear O2 g2 HM HNext c0 c1 c2 f0 f1
      go_wp2
      go_roundw
      case rel => exact ⟨k + 1, by omega, by go_num, by rw [HSucc.out], HN⟩
      case measure => simp [intOf]; omega
    · obtain rfl : k = rl.length := by omega
      go_wp2
      go_ret
      exact ⟨rfl, HR.out⟩

set_option maxHeartbeats 2000000 in
theorem heldRecS_same (w : World) (v : Value) (rl : List Rec3) (us : List Value) (q : Int) (h0 : 0 ≤ q) (hq : mAt q rl rl.length ≤ 4611686018427387904) (h : RdRecs w v (mkL q rl rl.length) us) :
    Calls Try.prog 60 #[v, .int .i64 q] w fun e w' => e = .returned (.int .i64 (mAt q rl rl.length)) ∧ w' = w := by
  have HV : Hid (RdRecs w v (mkL q rl rl.length) us) := h
  have HQ : Hid (mAt q rl rl.length ≤ 4611686018427387904) := hq
  obtain ⟨ao, ca, e, ha1, ha2, ha3⟩ := h.row
  rw [mkL_len] at e ha1 ha3
  subst e
  clear h hq
  unfold maxLen at ha2
  have hq0 : mAt q rl 0 = q := by simp [mAt, sumTo]
  go_enter Try.func60, Try.ntmps60
  go_wp2
  go_loop [1, 5] (fun q' i => ∃ k : Nat, k ≤ rl.length ∧ i = .int .i64 k ∧ q' = .int .i64 (mAt q rl k)) (fun _ i => rl.length - (intOf i).toNat)
  case atStart => exact ⟨0, by omega, rfl, by rw [hq0]⟩
  case round =>
    obtain ⟨k, hk, rfl, rfl⟩ := hrel
    by_cases hlt : k < rl.length
    · obtain ⟨b, off, rfl, hc⟩ := ha3 (by omega)
      obtain ⟨c0, c1, c2⟩ := hc k hlt
      have hE := HV.out.each k (by rw [mkL_len]; exact hlt)
      rw [mkL_get hlt, show mkR q rl rl.length k = mkR q rl (k + 1) k by unfold mkR; rw [if_pos hlt, if_pos (by omega)], mkR_done] at c0 c1 hE
      simp only at c0 c1 hE
      have hbd := mAt_bd h0 hlt HQ.out
      have HSucc : Hid (mAt q rl (k + 1) = mAt q rl k + 1 + 1 + (rl.getD k zRec).d.length) := mAt_succ hlt
      have HM := hide (held_same w _ (mAt q rl k + 1 + 1) _ (by omega) (by omega) hE.1)
      clear hc ha3 hE
      obtain ⟨u, hu⟩ : ∃ u, u = (us.getD k (.slice none 0 0)) := ⟨_, rfl⟩
      rw [← hu] at c2 HM
      clear hu
      generalize (rl.getD k zRec).d.length = L at HM hbd HSucc
      generalize mAt q rl k = m at c0 c1 HM hbd HSucc ⊢
      have n1 : (m != m) = false := by simp
      have n2 : (m + 1 != m + 1) = false := by simp
      have hneg : ¬ m + 1 + 1 + (L : Int) < 0 := by omega
      go_wp2_with fail
      refine HM.out.mono ?_
      rintro e w2 ⟨rfl, rfl⟩
      go_wp2
      go_round
      case rel => exact ⟨k + 1, by omega, by go_num, by rw [HSucc.out]⟩
      case measure => simp [intOf]; omega
    · obtain rfl : k = rl.length := by omega
      go_wp2
      go_ret
      exact ⟨rfl, rfl⟩
end Go.Proofs.Ytipcdioolafkpag.recmarks
