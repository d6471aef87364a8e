/- Contracts of the laws' own helpers on records: how large, copied, equal, marked. -/
import Derived.Test.YtipcdioolafkpagPays
namespace Go.Proofs.Ytipcdioolafkpag.rechelp
open Go.ChangeShapes Go.WideShapes Go.ChangeAt Go.RowKit
open Go.Proofs.Ytipcdioolafkpag.bytes Go.Proofs.Ytipcdioolafkpag.pile Go.Proofs.Ytipcdioolafkpag.put Go.Proofs.Ytipcdioolafkpag.crcs Go.Proofs.Ytipcdioolafkpag.join Go.Proofs.Ytipcdioolafkpag.frames Go.Proofs.Ytipcdioolafkpag.votes Go.Proofs.Ytipcdioolafkpag.pays
set_option linter.unusedVariables false

theorem cell_of {w : World} {b i : Nat} {cur : Array Value} {t : Nat} {v : Value} (h : w.heap[b]? = some (.cells cur t (0, 0))) (hv : cur[i]? = some v) : w.cell? ⟨b, i, none⟩ = some v := by simp [World.cell?, h, hv]
theorem frozen_of {w : World} {b : Nat} {cur : Array Value} {t : Nat} (h : w.heap[b]? = some (.cells cur t (0, 0))) (i : Nat) : w.frozen? ⟨b, i, none⟩ = false := by simp [World.frozen?, h]
theorem own_typed {w : World} {base e : Nat} {v : Value} {n : Nat} {xs : List Value} (h : w.ownsRow base e 1 v n xs) {g : Nat} (hg : v.ownBlock = some g) : ∃ cur, w.heap[g]? = some (.cells cur e (0, 0)) := by
  obtain ⟨_, ⟨rfl, _⟩ | ⟨g', cap, cur, rfl, _, hh, _⟩⟩ := h
  · simp [Value.ownBlock] at hg
  · simp only [Value.ownBlock, Option.some.injEq] at hg
    subst hg
    exact ⟨cur, hh⟩
theorem own_other {w : World} {base e e' : Nat} {v : Value} {n : Nat} {xs : List Value} (h : w.ownsRow base e 1 v n xs) {d : Nat} {cur : Array Value} (hd : w.heap[d]? = some (.cells cur e' (0, 0))) (hne : e ≠ e') : v.ownBlock ≠ some d := by
  intro hg
  obtain ⟨c, hc⟩ := own_typed h hg
  rw [hd] at hc
  simp only [Option.some.injEq, Obj.cells.injEq] at hc
  exact hne hc.2.1.symm
theorem own_setCell {w : World} {base : Nat} {v : Value} {xs : List Int} (h : Own w base v xs) {a : Addr} (ha : v.ownBlock ≠ some a.block) (u : Value) : Own (w.setCell a u) base v xs :=
  ⟨h.1, ownsRow_setCell_other h.2 ha u⟩
theorem below_drew' {B : Nat} {w w' : World} (h : Below B w w') (n : Nat) : Below B w (w'.drewN n) := ⟨h.os, h.tape, h.output, h.size, h.block⟩
theorem two_blocks (w : World) (o1 o2 : Obj) : ((w.alloc o1).alloc o2).heap[w.heap.size]? = some o1 ∧ ((w.alloc o1).alloc o2).heap[w.heap.size + 1]? = some o2 := by
  refine ⟨?_, new_at (by simp)⟩
  rw [Below.heap_alloc _ _ _ (by simp)]
  exact heap_alloc_new w o1
theorem three_blocks (w : World) (o1 o2 o3 : Obj) : (((w.alloc o1).alloc o2).alloc o3).heap[w.heap.size]? = some o1 ∧ (((w.alloc o1).alloc o2).alloc o3).heap[w.heap.size + 1]? = some o2 ∧ (((w.alloc o1).alloc o2).alloc o3).heap[w.heap.size + 2]? = some o3 := by
  refine ⟨?_, ?_, new_at (by simp)⟩
  · rw [Below.heap_alloc _ _ _ (by simp; omega)]
    exact (two_blocks w o1 o2).1
  · rw [Below.heap_alloc _ _ _ (by simp)]
    exact (two_blocks w o1 o2).2
theorem below3 (w : World) (o1 o2 o3 : Obj) : Below w.heap.size w (((w.alloc o1).alloc o2).alloc o3) := (((Below.refl _ _).alloc (Nat.le_refl _) _).alloc (by simp) _).alloc (by simp; omega) _

set_option maxHeartbeats 400000 in
theorem sz_any (w : World) (a : Value) (xs : List Int) (n : Int) (h0 : 0 ≤ n) (h1 : n ≤ 1048576) (ha : Rd w a xs) :
    Calls Try.prog 39 #[a, .int .i64 n] w fun e w' => e = .returned (.int .i64 (if n < xs.length then -1 else n - xs.length)) ∧ w' = w := by
  obtain ⟨ao, ca, rfl, ha1, ha2, hx, ha3⟩ := ha
  unfold maxLen at ha2
  clear ha3 hx
  by_cases hc : n < xs.length
  · have hc' : n - (xs.length : Int) < 0 := by omega
    rw [if_pos hc]
    go_enter Try.func39, Try.ntmps39
    go_wp2
    go_ret
    exact ⟨rfl, rfl⟩
  · have hc' : ¬ n - (xs.length : Int) < 0 := by omega
    rw [if_neg hc]
    go_enter Try.func39, Try.ntmps39
    go_wp2
    go_ret
    exact ⟨rfl, rfl⟩


set_option maxHeartbeats 800000 in
theorem szRec_any (w : World) (t i : Int) (u : Value) (ys : List Int) (n : Int) (h0 : 0 ≤ n) (h1 : n ≤ 1048576) (hu : RdA w u ys) :
    Calls Try.prog 21 #[.agg #[.int .i64 t, .int .i64 i, u], .int .i64 n] w fun e w' => (∃ r : Int, e = .returned (.int .i64 r) ∧ (r < 0 ∨ (0 ≤ r ∧ r + ys.length = n))) ∧ Below w.heap.size w w' := by
  have HU : Hid (RdA w u ys) := hu
  obtain ⟨⟨uo, uc, rfl, _, h2, _⟩, _⟩ := hu
  unfold maxLen at h2
  have hba : Below w.heap.size w (w.alloc (.cells #[.int .i64 t, .int .i64 i, .slice uo ys.length uc] 40)) := (Below.refl _ _).alloc (Nat.le_refl _) _
  go_enter Try.func21, Try.ntmps21
  go_wp2_with fail
  refine (sz_any _ _ ys n h0 h1 (HU.out.below hba (Nat.le_refl _)).1).mono ?_
  rintro e w1 ⟨rfl, hw1⟩
  subst hw1
  by_cases hc : n < ys.length
  · rw [if_pos hc]
    go_wp2
    go_ret
    exact ⟨⟨_, rfl, .inl (by omega)⟩, hba⟩
  · rw [if_neg hc]
    have hc' : ¬ n - (ys.length : Int) < 0 := by omega
    go_wp2
    go_ret
    exact ⟨⟨_, rfl, .inr ⟨by omega, by omega⟩⟩, hba⟩

/-- A copy of a record. -/
def RecCopy (w : World) (t i : Int) (ys : List Int) (v : Value) (w' : World) : Prop :=
  ∃ o c, v = .agg #[.int .i64 t, .int .i64 i, .slice o ys.length c] ∧ Own w' w.heap.size (.slice o ys.length c) ys ∧ Below w.heap.size w w'

set_option maxHeartbeats 1600000 in
theorem toRec_own (w : World) (t i : Int) (u : Value) (ys : List Int) (hu : RdA w u ys) (hl : ys.length ≤ 281474976710656) :
    Calls Try.prog 23 #[.agg #[.int .i64 t, .int .i64 i, u]] w fun e w' => ∃ v, e = .returned v ∧ RecCopy w t i ys v w' := by
  have HU : Hid (RdA w u ys) := hu
  obtain ⟨⟨uo, uc, rfl, _⟩, _⟩ := hu
  obtain ⟨W0, hW0⟩ : ∃ W0, W0 = ((w.alloc (.cells #[.int .i64 t, .int .i64 i, .slice uo ys.length uc] 40)).alloc (.cells #[.int .i64 0, .int .i64 0, .slice none 0 0] 43)).alloc (.cells #[.int .i64 t, .int .i64 i, .slice none 0 0] 43) := ⟨_, rfl⟩
  have sz0 : W0.heap.size = w.heap.size + 3 := by rw [hW0]; simp
  have b0 : Below w.heap.size w W0 := by rw [hW0]; exact below3 w _ _ _
  have k1 : W0.heap[w.heap.size + 1]? = some (.cells #[.int .i64 0, .int .i64 0, .slice none 0 0] 43 (0, 0)) := by rw [hW0]; exact (three_blocks w _ _ _).2.1
  have k2 : W0.heap[w.heap.size + 2]? = some (.cells #[.int .i64 t, .int .i64 i, .slice none 0 0] 43 (0, 0)) := by rw [hW0]; exact (three_blocks w _ _ _).2.2
  have hC := to_own W0 _ ys hl (HU.out.below b0 (Nat.le_refl _)).1
  rw [hW0] at hC
  go_enter Try.func23, Try.ntmps23
  go_wp2_with fail
  refine hC.mono ?_
  rw [← hW0]
  rintro e w1 ⟨v1, rfl, O1, b1⟩
  obtain ⟨o1, n1, hv1, _⟩ := O1.rd
  subst hv1
  have q1 := kept b1 k1 (Nat.le_refl _)
  have q2 := kept b1 k2 (Nat.le_refl _)
  have b1' : Below w.heap.size w w1 := b0.trans (b1.mono (by omega))
  have x22 := cell_of q2 (i := 2) rfl
  have y22 := frozen_of q2 2
  have q3 : (w1.setCell ⟨w.heap.size + 2, 2, none⟩ (.slice o1 ys.length n1)).heap[w.heap.size + 2]? = some (.cells #[.int .i64 t, .int .i64 i, .slice o1 ys.length n1] 43 (0, 0)) := by
    have := heap_setCell_same w1 (w.heap.size + 2) 2 _ 43 (.slice o1 ys.length n1) q2
    simpa using this
  have q3' : (w1.setCell ⟨w.heap.size + 2, 2, none⟩ (.slice o1 ys.length n1)).heap[w.heap.size + 1]? = some (.cells #[.int .i64 0, .int .i64 0, .slice none 0 0] 43 (0, 0)) := by
    rw [Below.heap_setCell _ _ _ _ (by simp)]; exact q1
  have z0 := cell_of q3 (i := 0) rfl
  have z1 := cell_of q3 (i := 1) rfl
  have z2 := cell_of q3 (i := 2) rfl
  have r0 := cell_of q3' (i := 0) rfl
  have r1 := cell_of q3' (i := 1) rfl
  have r2 := cell_of q3' (i := 2) rfl
  have f0 := frozen_of q3' 0
  have f1 := frozen_of q3' 1
  have f2 := frozen_of q3' 2
  have hne2 : (Value.slice o1 ys.length n1).ownBlock ≠ some (w.heap.size + 2) := own_other O1.2 q2 (by decide)
  have hne1 : (Value.slice o1 ys.length n1).ownBlock ≠ some (w.heap.size + 1) := own_other O1.2 q1 (by decide)
  obtain ⟨w2, hw2⟩ : ∃ w2, w2 = w1.setCell ⟨w.heap.size + 2, 2, none⟩ (.slice o1 ys.length n1) := ⟨_, rfl⟩
  have O2 : Own w2 W0.heap.size (.slice o1 ys.length n1) ys := by rw [hw2]; exact own_setCell O1 hne2 _
  have b2 : Below w.heap.size w w2 := by rw [hw2]; exact b1'.setCell (p := ⟨w.heap.size + 2, 2, none⟩) (by simp) _
  rw [← hw2] at z0 z1 z2 r0 r1 r2 f0 f1 f2 q3'
  have e0 : (w2.setCell ⟨w.heap.size + 1, 0, none⟩ (.int .i64 t)).heap[w.heap.size + 1]? = some (.cells #[.int .i64 t, .int .i64 0, .slice none 0 0] 43 (0, 0)) := by have := heap_setCell_same w2 (w.heap.size + 1) 0 _ 43 (.int .i64 t) q3'; simpa using this
  have e1 : ((w2.setCell ⟨w.heap.size + 1, 0, none⟩ (.int .i64 t)).setCell ⟨w.heap.size + 1, 1, none⟩ (.int .i64 i)).heap[w.heap.size + 1]? = some (.cells #[.int .i64 t, .int .i64 i, .slice none 0 0] 43 (0, 0)) := by have := heap_setCell_same _ (w.heap.size + 1) 1 _ 43 (.int .i64 i) e0; simpa using this
  obtain ⟨w3, hw3⟩ : ∃ w3, w3 = ((w2.setCell ⟨w.heap.size + 1, 0, none⟩ (.int .i64 t)).setCell ⟨w.heap.size + 1, 1, none⟩ (.int .i64 i)).setCell ⟨w.heap.size + 1, 2, none⟩ (.slice o1 ys.length n1) := ⟨_, rfl⟩
  have e2 : w3.heap[w.heap.size + 1]? = some (.cells #[.int .i64 t, .int .i64 i, .slice o1 ys.length n1] 43 (0, 0)) := by rw [hw3]; have := heap_setCell_same _ (w.heap.size + 1) 2 _ 43 (.slice o1 ys.length n1) e1; simpa using this
  have g0 := cell_of e2 (i := 0) rfl
  have g1 := cell_of e2 (i := 1) rfl
  have g2 := cell_of e2 (i := 2) rfl
  have HE : Hid (RecCopy w t i ys (.agg #[.int .i64 t, .int .i64 i, .slice o1 ys.length n1]) w3) := by
    refine hide ⟨o1, n1, rfl, ?_, ?_⟩
    · rw [hw3]
      exact (own_setCell (own_setCell (own_setCell O2 (a := ⟨w.heap.size + 1, 0, none⟩) hne1 _) (a := ⟨w.heap.size + 1, 1, none⟩) hne1 _) (a := ⟨w.heap.size + 1, 2, none⟩) hne1 _).mono (by omega)
    · rw [hw3]
      exact ((b2.setCell (p := ⟨w.heap.size + 1, 0, none⟩) (by simp) _).setCell (p := ⟨w.heap.size + 1, 1, none⟩) (by simp) _).setCell (p := ⟨w.heap.size + 1, 2, none⟩) (by simp) _
  rw [hw3, hw2] at g0 g1 g2 HE
  rw [hw2] at z0 z1 z2 r0 r1 r2 f0 f1 f2
  clear hC hw3 hw2 e0 e1 e2 O2 b2 O1 b1 b1' hW0 q1 q2 q3 q3' k1 k2 b0 hne1 hne2
  go_wp2
  exact bodyPost_ret (v := .agg #[.int .i64 t, .int .i64 i, .slice o1 ys.length n1]) (by simp [results, Try.results23, go_sem, g0, g1, g2]) rfl ⟨_, rfl, HE.out⟩

set_option maxHeartbeats 800000 in
theorem eqRec_same (w : World) (t i : Int) (u v : Value) (ys : List Int) (hu : RdA w u ys) (hv : RdA w v ys) :
    Calls Try.prog 25 #[.agg #[.int .i64 t, .int .i64 i, u], .agg #[.int .i64 t, .int .i64 i, v]] w fun e w' => e = .returned (.bool true) ∧ Below w.heap.size w w' := by
  have HU : Hid (RdA w u ys ∧ RdA w v ys) := ⟨hu, hv⟩
  obtain ⟨⟨uo, uc, rfl, _⟩, _⟩ := hu
  obtain ⟨⟨vo, vc, rfl, _⟩, _⟩ := hv
  have hb : Below w.heap.size w ((w.alloc (.cells #[.int .i64 t, .int .i64 i, .slice uo ys.length uc] 43)).alloc (.cells #[.int .i64 t, .int .i64 i, .slice vo ys.length vc] 43)) := ((Below.refl _ _).alloc (Nat.le_refl _) _).alloc (by simp) _
  have n1 : (t != t) = false := by simp
  have n2 : (i != i) = false := by simp
  go_enter Try.func25, Try.ntmps25
  go_wp2_with fail
  refine (eq_same _ _ _ ys (HU.out.1.below hb (Nat.le_refl _)).1 (HU.out.2.below hb (Nat.le_refl _)).1).mono ?_
  rintro e w1 ⟨rfl, n, rfl⟩
  go_wp2
  go_ret
  exact ⟨rfl, below_drew' hb n⟩

set_option maxHeartbeats 800000 in
theorem markRec_own (w : World) (base : Nat) (t i : Int) (u : Value) (q : Int) (ys : List Int) (h0 : 0 ≤ q) (hq : q + ys.length ≤ 4611686018427387904) (hu : Own w base u ys) :
    Calls Try.prog 26 #[.agg #[.int .i64 t, .int .i64 i, u], .int .i64 q] w fun e w' => e = .returned (.int .i64 (q + ys.length)) ∧ Own w' base u (marks q ys.length) ∧ w.grownBy w' u.ownBlock := by
  have HU : Hid (Own w base u ys) := hu
  obtain ⟨uo, uc, rfl, _⟩ := hu.rd
  clear hu
  have hb : Below w.heap.size w (w.alloc (.cells #[.int .i64 t, .int .i64 i, .slice uo ys.length uc] 43)) := (Below.refl _ _).alloc (Nat.le_refl _) _
  go_enter Try.func26, Try.ntmps26
  go_wp2_with fail
  refine (mark_own _ base _ q ys h0 hq (HU.out.below hb (Nat.le_refl _))).mono ?_
  rintro e w1 ⟨rfl, O1, g1⟩
  have HF : Hid (Own w1 base (.slice uo ys.length uc) (marks q ys.length) ∧ w.grownBy w1 (Value.slice uo ys.length uc).ownBlock) := ⟨O1, grown_trans (World.grownBy_alloc w _ _) g1⟩
  clear O1 g1
  go_wp2
  go_ret
  exact ⟨rfl, HF.out⟩
end Go.Proofs.Ytipcdioolafkpag.rechelp
