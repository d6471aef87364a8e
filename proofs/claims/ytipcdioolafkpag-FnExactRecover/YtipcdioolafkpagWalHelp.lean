/- The laws' own helpers on a log's state: how large, copied, equal, marked, held. -/
import Derived.Test.YtipcdioolafkpagRecMarks
namespace Go.Proofs.Ytipcdioolafkpag.walhelp
open Go.ChangeShapes Go.WideShapes Go.ChangeAt Go.RowKit
open Go.Proofs.Ytipcdioolafkpag.bytes Go.Proofs.Ytipcdioolafkpag.pile Go.Proofs.Ytipcdioolafkpag.put Go.Proofs.Ytipcdioolafkpag.crcs Go.Proofs.Ytipcdioolafkpag.join Go.Proofs.Ytipcdioolafkpag.frames Go.Proofs.Ytipcdioolafkpag.votes Go.Proofs.Ytipcdioolafkpag.pays Go.Proofs.Ytipcdioolafkpag.rechelp Go.Proofs.Ytipcdioolafkpag.recrows Go.Proofs.Ytipcdioolafkpag.recmarks
set_option linter.unusedVariables false

/-- The numbers of a log's state. -/
structure Wal5 where
  T : Int
  V : Int
  B : Int
  BT : Int
  G : Int

set_option maxHeartbeats 1000000 in
theorem szWal_any (w : World) (a : Wal5) (v : Value) (rl : List Rec3) (us : List Value) (n : Int) (h0 : 0 ≤ n) (h1 : n ≤ 1048576) (hv : RdRecs w v rl us) :
    Calls Try.prog 35 #[.agg #[.int .i64 a.T, .int .i64 a.V, .int .i64 a.B, .int .i64 a.BT, v, .int .i64 a.G], .int .i64 n] w fun e w' => (∃ r : Int, e = .returned (.int .i64 r) ∧ (r < 0 ∨ (0 ≤ r ∧ r + rl.length + sumTo rl rl.length = n))) ∧ Below w.heap.size w w' := by
  have HV : Hid (RdRecs w v rl us) := hv
  obtain ⟨ao, ca, rfl, _⟩ := hv.row
  clear hv
  have hba : Below w.heap.size w (w.alloc (.cells #[.int .i64 a.T, .int .i64 a.V, .int .i64 a.B, .int .i64 a.BT, .slice ao rl.length ca, .int .i64 a.G] 59)) := (Below.refl _ _).alloc (Nat.le_refl _) _
  obtain ⟨S, hS⟩ : ∃ S, S = sumTo rl rl.length := ⟨_, rfl⟩
  have hC := szRecS_any _ _ rl us n h0 h1 (HV.out.below hba (Nat.le_refl _))
  rw [← hS] at hC ⊢
  clear hS
  go_enter Try.func35, Try.ntmps35
  go_wp2_with fail
  refine hC.mono ?_
  rintro e w1 ⟨⟨r, rfl, hr⟩, b1⟩
  have HB : Hid (Below w.heap.size w w1) := hba.trans (b1.mono (by simp))
  clear b1 hC
  rcases hr with hr | ⟨hr, hsum⟩
  · go_wp2
    go_ret
    exact ⟨⟨_, rfl, .inl (by omega)⟩, HB.out⟩
  · have hr' : ¬ r < 0 := by omega
    have HE : Hid (r + rl.length + S = n) := hsum
    clear hsum
    go_wp2
    go_ret
    exact ⟨⟨_, rfl, .inr ⟨by omega, HE.out⟩⟩, HB.out⟩

theorem own_recs_set {w : World} {base : Nat} {v : Value} {rl : List Rec3} {us : List Value} (h : OwnRecs w base v rl us) {d i : Nat} {cur : Array Value} {t : Nat} (hd : w.heap[d]? = some (.cells cur t (0, 0))) (h5 : t ≠ 5) (h43 : t ≠ 43) (x : Value) : OwnRecs (w.setCell ⟨d, i, none⟩ x) base v rl us where
  len := h.len
  row := by
    obtain ⟨ao, cap, rfl, h1, h2, h4⟩ := h.row
    refine ⟨ao, cap, rfl, h1, h2, fun hp => ?_⟩
    obtain ⟨g, off, cur', rfl, hbg, hg, hc⟩ := h4 hp
    refine ⟨g, off, cur', rfl, hbg, ?_, hc⟩
    rw [Below.heap_setCell _ _ _ _ (fun e => by
      subst e
      rw [hd] at hg
      simp only [Option.some.injEq, Obj.cells.injEq] at hg
      exact h43 hg.2.1)]
    exact hg
  each := fun k hk => own_setCell (h.each k hk) (a := ⟨d, i, none⟩) (own_other (h.each k hk).2 hd (fun e => h5 e.symm)) x
  apart := h.apart

/-- A copy of a log's state. -/
def WalCopy (w : World) (a : Wal5) (rl : List Rec3) (v : Value) (w' : World) : Prop :=
  ∃ o c us, v = .agg #[.int .i64 a.T, .int .i64 a.V, .int .i64 a.B, .int .i64 a.BT, .slice o rl.length c, .int .i64 a.G] ∧ OwnRecs w' w.heap.size (.slice o rl.length c) rl us ∧ Below w.heap.size w w'

set_option maxRecDepth 20000 in
set_option maxHeartbeats 4000000 in
theorem toWal_own (w : World) (a : Wal5) (v : Value) (rl : List Rec3) (us : List Value) (hv : RdRecs w v rl us) (hn : rl.length + sumTo rl rl.length ≤ 1048576) :
    Calls Try.prog 37 #[.agg #[.int .i64 a.T, .int .i64 a.V, .int .i64 a.B, .int .i64 a.BT, v, .int .i64 a.G]] w fun e w' => ∃ v', e = .returned v' ∧ WalCopy w a rl v' w' := by
  have HV : Hid (RdRecs w v rl us) := hv
  obtain ⟨ao, ca, rfl, _⟩ := hv.row
  clear hv
  obtain ⟨W0, hW0⟩ : ∃ W0, W0 = ((w.alloc (.cells #[.int .i64 a.T, .int .i64 a.V, .int .i64 a.B, .int .i64 a.BT, .slice ao rl.length ca, .int .i64 a.G] 59)).alloc (.cells #[.int .i64 0, .int .i64 0, .int .i64 0, .int .i64 0, .slice none 0 0, .int .i64 0] 50)).alloc (.cells #[.int .i64 a.T, .int .i64 a.V, .int .i64 a.B, .int .i64 a.BT, .slice none 0 0, .int .i64 0] 50) := ⟨_, rfl⟩
  have sz0 : W0.heap.size = w.heap.size + 3 := by rw [hW0]; simp
  have b0 : Below w.heap.size w W0 := by rw [hW0]; exact below3 w _ _ _
  have k0 : W0.heap[w.heap.size]? = some (.cells #[.int .i64 a.T, .int .i64 a.V, .int .i64 a.B, .int .i64 a.BT, .slice ao rl.length ca, .int .i64 a.G] 59 (0, 0)) := by rw [hW0]; exact (three_blocks w _ _ _).1
  have k1 : W0.heap[w.heap.size + 1]? = some (.cells #[.int .i64 0, .int .i64 0, .int .i64 0, .int .i64 0, .slice none 0 0, .int .i64 0] 50 (0, 0)) := by rw [hW0]; exact (three_blocks w _ _ _).2.1
  have k2 : W0.heap[w.heap.size + 2]? = some (.cells #[.int .i64 a.T, .int .i64 a.V, .int .i64 a.B, .int .i64 a.BT, .slice none 0 0, .int .i64 0] 50 (0, 0)) := by rw [hW0]; exact (three_blocks w _ _ _).2.2
  have hC := toRecS_own W0 _ rl us (HV.out.below b0 (Nat.le_refl _)) hn
  rw [hW0] at hC
  go_enter Try.func37, Try.ntmps37
  go_wp2_with fail
  refine hC.mono ?_
  rw [← hW0]
  rintro e w1 ⟨v1, rfl, us1, O1, b1⟩
  obtain ⟨o1, n1, hv1, _⟩ := O1.row
  subst hv1
  have q0 := kept b1 k0 (Nat.le_refl _)
  have q1 := kept b1 k1 (Nat.le_refl _)
  have q2 := kept b1 k2 (Nat.le_refl _)
  have b1' : Below w.heap.size w w1 := b0.trans (b1.mono (by omega))
  have x24 := cell_of q2 (i := 4) rfl
  have y24 := frozen_of q2 4
  have x05 := cell_of q0 (i := 5) rfl
  have p1 : (w1.setCell ⟨w.heap.size + 2, 4, none⟩ (.slice o1 rl.length n1)).heap[w.heap.size + 2]? = some (.cells #[.int .i64 a.T, .int .i64 a.V, .int .i64 a.B, .int .i64 a.BT, .slice o1 rl.length n1, .int .i64 0] 50 (0, 0)) := by
    have := heap_setCell_same w1 (w.heap.size + 2) 4 _ 50 (.slice o1 rl.length n1) q2
    simpa using this
  have p1' : (w1.setCell ⟨w.heap.size + 2, 4, none⟩ (.slice o1 rl.length n1)).heap[w.heap.size]? = some (.cells #[.int .i64 a.T, .int .i64 a.V, .int .i64 a.B, .int .i64 a.BT, .slice ao rl.length ca, .int .i64 a.G] 59 (0, 0)) := by rw [Below.heap_setCell _ _ _ _ (by simp)]; exact q0
  have x05' := cell_of p1' (i := 5) rfl
  have x25 := cell_of p1 (i := 5) rfl
  have y25 := frozen_of p1 5
  obtain ⟨w2, hw2⟩ : ∃ w2, w2 = (w1.setCell ⟨w.heap.size + 2, 4, none⟩ (.slice o1 rl.length n1)).setCell ⟨w.heap.size + 2, 5, none⟩ (.int .i64 a.G) := ⟨_, rfl⟩
  have p2 : w2.heap[w.heap.size + 2]? = some (.cells #[.int .i64 a.T, .int .i64 a.V, .int .i64 a.B, .int .i64 a.BT, .slice o1 rl.length n1, .int .i64 a.G] 50 (0, 0)) := by
    rw [hw2]
    have := heap_setCell_same _ (w.heap.size + 2) 5 _ 50 (.int .i64 a.G) p1
    simpa using this
  have p3 : w2.heap[w.heap.size + 1]? = some (.cells #[.int .i64 0, .int .i64 0, .int .i64 0, .int .i64 0, .slice none 0 0, .int .i64 0] 50 (0, 0)) := by
    rw [hw2, Below.heap_setCell _ _ _ _ (by simp), Below.heap_setCell _ _ _ _ (by simp)]; exact q1
  have z0 := cell_of p2 (i := 0) rfl
  have z1 := cell_of p2 (i := 1) rfl
  have z2 := cell_of p2 (i := 2) rfl
  have z3 := cell_of p2 (i := 3) rfl
  have z4 := cell_of p2 (i := 4) rfl
  have z5 := cell_of p2 (i := 5) rfl
  have r0 := cell_of p3 (i := 0) rfl
  have r1 := cell_of p3 (i := 1) rfl
  have r2 := cell_of p3 (i := 2) rfl
  have r3 := cell_of p3 (i := 3) rfl
  have r4 := cell_of p3 (i := 4) rfl
  have r5 := cell_of p3 (i := 5) rfl
  have f0 := frozen_of p3 0
  have f1 := frozen_of p3 1
  have f2 := frozen_of p3 2
  have f3 := frozen_of p3 3
  have f4 := frozen_of p3 4
  have f5 := frozen_of p3 5
  have O2 : OwnRecs w2 W0.heap.size (.slice o1 rl.length n1) rl us1 := by rw [hw2]; exact own_recs_set (own_recs_set O1 q2 (by decide) (by decide) _) p1 (by decide) (by decide) _
  have b2 : Below w.heap.size w w2 := by rw [hw2]; exact (b1'.setCell (p := ⟨w.heap.size + 2, 4, none⟩) (by simp) _).setCell (p := ⟨w.heap.size + 2, 5, none⟩) (by simp) _
  have e0 : (w2.setCell ⟨w.heap.size + 1, 0, none⟩ (.int .i64 a.T)).heap[w.heap.size + 1]? = some (.cells #[.int .i64 a.T, .int .i64 0, .int .i64 0, .int .i64 0, .slice none 0 0, .int .i64 0] 50 (0, 0)) := by have := heap_setCell_same w2 (w.heap.size + 1) 0 _ 50 (.int .i64 a.T) p3; simpa using this
  have e1 : ((w2.setCell ⟨w.heap.size + 1, 0, none⟩ (.int .i64 a.T)).setCell ⟨w.heap.size + 1, 1, none⟩ (.int .i64 a.V)).heap[w.heap.size + 1]? = some (.cells #[.int .i64 a.T, .int .i64 a.V, .int .i64 0, .int .i64 0, .slice none 0 0, .int .i64 0] 50 (0, 0)) := by have := heap_setCell_same _ (w.heap.size + 1) 1 _ 50 (.int .i64 a.V) e0; simpa using this
  have e2 : (((w2.setCell ⟨w.heap.size + 1, 0, none⟩ (.int .i64 a.T)).setCell ⟨w.heap.size + 1, 1, none⟩ (.int .i64 a.V)).setCell ⟨w.heap.size + 1, 2, none⟩ (.int .i64 a.B)).heap[w.heap.size + 1]? = some (.cells #[.int .i64 a.T, .int .i64 a.V, .int .i64 a.B, .int .i64 0, .slice none 0 0, .int .i64 0] 50 (0, 0)) := by have := heap_setCell_same _ (w.heap.size + 1) 2 _ 50 (.int .i64 a.B) e1; simpa using this
  have e3 : ((((w2.setCell ⟨w.heap.size + 1, 0, none⟩ (.int .i64 a.T)).setCell ⟨w.heap.size + 1, 1, none⟩ (.int .i64 a.V)).setCell ⟨w.heap.size + 1, 2, none⟩ (.int .i64 a.B)).setCell ⟨w.heap.size + 1, 3, none⟩ (.int .i64 a.BT)).heap[w.heap.size + 1]? = some (.cells #[.int .i64 a.T, .int .i64 a.V, .int .i64 a.B, .int .i64 a.BT, .slice none 0 0, .int .i64 0] 50 (0, 0)) := by have := heap_setCell_same _ (w.heap.size + 1) 3 _ 50 (.int .i64 a.BT) e2; simpa using this
  have e4 : (((((w2.setCell ⟨w.heap.size + 1, 0, none⟩ (.int .i64 a.T)).setCell ⟨w.heap.size + 1, 1, none⟩ (.int .i64 a.V)).setCell ⟨w.heap.size + 1, 2, none⟩ (.int .i64 a.B)).setCell ⟨w.heap.size + 1, 3, none⟩ (.int .i64 a.BT)).setCell ⟨w.heap.size + 1, 4, none⟩ (.slice o1 rl.length n1)).heap[w.heap.size + 1]? = some (.cells #[.int .i64 a.T, .int .i64 a.V, .int .i64 a.B, .int .i64 a.BT, .slice o1 rl.length n1, .int .i64 0] 50 (0, 0)) := by have := heap_setCell_same _ (w.heap.size + 1) 4 _ 50 (.slice o1 rl.length n1) e3; simpa using this
  obtain ⟨w3, hw3⟩ : ∃ w3, w3 = (((((w2.setCell ⟨w.heap.size + 1, 0, none⟩ (.int .i64 a.T)).setCell ⟨w.heap.size + 1, 1, none⟩ (.int .i64 a.V)).setCell ⟨w.heap.size + 1, 2, none⟩ (.int .i64 a.B)).setCell ⟨w.heap.size + 1, 3, none⟩ (.int .i64 a.BT)).setCell ⟨w.heap.size + 1, 4, none⟩ (.slice o1 rl.length n1)).setCell ⟨w.heap.size + 1, 5, none⟩ (.int .i64 a.G) := ⟨_, rfl⟩
  have e5 : w3.heap[w.heap.size + 1]? = some (.cells #[.int .i64 a.T, .int .i64 a.V, .int .i64 a.B, .int .i64 a.BT, .slice o1 rl.length n1, .int .i64 a.G] 50 (0, 0)) := by rw [hw3]; have := heap_setCell_same _ (w.heap.size + 1) 5 _ 50 (.int .i64 a.G) e4; simpa using this
  have g0 := cell_of e5 (i := 0) rfl
  have g1 := cell_of e5 (i := 1) rfl
  have g2 := cell_of e5 (i := 2) rfl
  have g3 := cell_of e5 (i := 3) rfl
  have g4 := cell_of e5 (i := 4) rfl
  have g5 := cell_of e5 (i := 5) rfl
  have HE : Hid (WalCopy w a rl (.agg #[.int .i64 a.T, .int .i64 a.V, .int .i64 a.B, .int .i64 a.BT, .slice o1 rl.length n1, .int .i64 a.G]) w3) := by
    refine hide ⟨o1, n1, us1, rfl, ?_, ?_⟩
    · rw [hw3]
      exact (own_recs_set (own_recs_set (own_recs_set (own_recs_set (own_recs_set (own_recs_set O2 p3 (by decide) (by decide) _) e0 (by decide) (by decide) _) e1 (by decide) (by decide) _) e2 (by decide) (by decide) _) e3 (by decide) (by decide) _) e4 (by decide) (by decide) _).mono (by omega)
    · rw [hw3]
      exact (((((b2.setCell (p := ⟨w.heap.size + 1, 0, none⟩) (by simp) _).setCell (p := ⟨w.heap.size + 1, 1, none⟩) (by simp) _).setCell (p := ⟨w.heap.size + 1, 2, none⟩) (by simp) _).setCell (p := ⟨w.heap.size + 1, 3, none⟩) (by simp) _).setCell (p := ⟨w.heap.size + 1, 4, none⟩) (by simp) _).setCell (p := ⟨w.heap.size + 1, 5, none⟩) (by simp) _
  rw [hw3, hw2] at g0 g1 g2 g3 g4 g5 HE
  rw [hw2] at z0 z1 z2 z3 z4 z5 r0 r1 r2 r3 r4 r5 f0 f1 f2 f3 f4 f5
  clear hC hw3 hw2 e0 e1 e2 e3 e4 e5 O2 b2 O1 b1 b1' hW0 q0 q1 q2 p1 p1' p2 p3 k0 k1 k2 b0
  go_wp2
  exact bodyPost_ret (v := .agg #[.int .i64 a.T, .int .i64 a.V, .int .i64 a.B, .int .i64 a.BT, .slice o1 rl.length n1, .int .i64 a.G]) (by simp [results, Try.results37, go_sem, g0, g1, g2, g3, g4, g5]) rfl ⟨_, rfl, HE.out⟩

set_option maxHeartbeats 2000000 in
theorem eqWal_same (w : World) (a : Wal5) (u v : Value) (rl : List Rec3) (us vs : List Value) (hu : RdRecs w u rl us) (hv : RdRecs w v rl vs) :
    Calls Try.prog 32 #[.agg #[.int .i64 a.T, .int .i64 a.V, .int .i64 a.B, .int .i64 a.BT, u, .int .i64 a.G], .agg #[.int .i64 a.T, .int .i64 a.V, .int .i64 a.B, .int .i64 a.BT, v, .int .i64 a.G]] w fun e w' => e = .returned (.bool true) ∧ Below w.heap.size w w' := by
  have HU : Hid (RdRecs w u rl us ∧ RdRecs w v rl vs) := ⟨hu, hv⟩
  obtain ⟨uo, uc, rfl, _⟩ := hu.row
  obtain ⟨vo, vc, rfl, _⟩ := hv.row
  clear hu hv
  have hb : Below w.heap.size w ((w.alloc (.cells #[.int .i64 a.T, .int .i64 a.V, .int .i64 a.B, .int .i64 a.BT, .slice uo rl.length uc, .int .i64 a.G] 50)).alloc (.cells #[.int .i64 a.T, .int .i64 a.V, .int .i64 a.B, .int .i64 a.BT, .slice vo rl.length vc, .int .i64 a.G] 50)) := ((Below.refl _ _).alloc (Nat.le_refl _) _).alloc (by simp) _
  have k0 := (two_blocks w (.cells #[.int .i64 a.T, .int .i64 a.V, .int .i64 a.B, .int .i64 a.BT, .slice uo rl.length uc, .int .i64 a.G] 50) (.cells #[.int .i64 a.T, .int .i64 a.V, .int .i64 a.B, .int .i64 a.BT, .slice vo rl.length vc, .int .i64 a.G] 50)).1
  have k1 := (two_blocks w (.cells #[.int .i64 a.T, .int .i64 a.V, .int .i64 a.B, .int .i64 a.BT, .slice uo rl.length uc, .int .i64 a.G] 50) (.cells #[.int .i64 a.T, .int .i64 a.V, .int .i64 a.B, .int .i64 a.BT, .slice vo rl.length vc, .int .i64 a.G] 50)).2
  have n1 : (a.T != a.T) = false := by simp
  have n2 : (a.V != a.V) = false := by simp
  have n3 : (a.B != a.B) = false := by simp
  have n4 : (a.BT != a.BT) = false := by simp
  have n5 : (a.G != a.G) = false := by simp
  go_enter Try.func32, Try.ntmps32
  go_wp2_with fail
  refine (eqRecS_same _ _ _ rl us vs (HU.out.1.below hb (Nat.le_refl _)) (HU.out.2.below hb (Nat.le_refl _))).mono ?_
  rintro e w1 ⟨rfl, b1⟩
  have q0 := kept b1 k0 (Nat.le_refl _)
  have q1 := kept b1 k1 (Nat.le_refl _)
  have c0 := cell_of q0 (i := 5) rfl
  have c1 := cell_of q1 (i := 5) rfl
  have HB : Hid (Below w.heap.size w w1) := hb.trans (b1.mono hb.size)
  clear q0 q1 k0 k1 b1
  go_wp2
  go_ret
  exact ⟨rfl, HB.out⟩

set_option maxHeartbeats 2000000 in
theorem markWal_own (w : World) (base : Nat) (a : Wal5) (v : Value) (rl : List Rec3) (us : List Value) (q : Int) (h0 : 0 ≤ q) (hq : mAt q rl rl.length ≤ 4611686018427387904) (h : OwnRecs w base v rl us) :
    Calls Try.prog 33 #[.agg #[.int .i64 a.T, .int .i64 a.V, .int .i64 a.B, .int .i64 a.BT, v, .int .i64 a.G], .int .i64 q] w fun e w' => e = .returned (.int .i64 (mAt q rl rl.length)) ∧ OwnRecs w' base v (mkL q rl rl.length) us ∧ TouchV (v :: us) w w' := by
  have HV : Hid (OwnRecs w base v rl us) := h
  obtain ⟨ao, ca, rfl, _⟩ := h.row
  clear h
  have hb : Below w.heap.size w (w.alloc (.cells #[.int .i64 a.T, .int .i64 a.V, .int .i64 a.B, .int .i64 a.BT, .slice ao rl.length ca, .int .i64 a.G] 50)) := (Below.refl _ _).alloc (Nat.le_refl _) _
  obtain ⟨M, hM⟩ : ∃ M, M = mAt q rl rl.length := ⟨_, rfl⟩
  have hC := markRecS_own _ base _ rl us q h0 hq (HV.out.below hb (Nat.le_refl _))
  rw [← hM] at hC hq ⊢
  clear hM
  go_enter Try.func33, Try.ntmps33
  go_wp2_with fail
  refine hC.mono ?_
  rintro e w1 ⟨rfl, O1, t1⟩
  have HF : Hid (OwnRecs w1 base (.slice ao rl.length ca) (mkL q rl rl.length) us ∧ TouchV (.slice ao rl.length ca :: us) w w1) := by
    refine hide ⟨O1, t1.os, t1.tape, t1.output, Nat.le_trans (by simp) t1.size, fun k hk hn => ?_⟩
    rw [t1.block k (by simp; omega) hn, Below.heap_alloc _ _ _ hk]
  clear O1 t1 hC
  go_wp2
  go_ret
  exact ⟨rfl, HF.out⟩

set_option maxHeartbeats 2000000 in
theorem heldWal_same (w : World) (a : Wal5) (v : Value) (rl : List Rec3) (us : List Value) (q : Int) (h0 : 0 ≤ q) (hq : mAt q rl rl.length ≤ 4611686018427387904) (h : RdRecs w v (mkL q rl rl.length) us) :
    Calls Try.prog 34 #[.agg #[.int .i64 a.T, .int .i64 a.V, .int .i64 a.B, .int .i64 a.BT, v, .int .i64 a.G], .int .i64 q] w fun e w' => e = .returned (.int .i64 (mAt q rl rl.length)) ∧ Below w.heap.size w w' := by
  have HV : Hid (RdRecs w v (mkL q rl rl.length) us) := h
  obtain ⟨ao, ca, hv, _⟩ := h.row
  rw [mkL_len] at hv
  subst hv
  clear h
  have hb : Below w.heap.size w (w.alloc (.cells #[.int .i64 a.T, .int .i64 a.V, .int .i64 a.B, .int .i64 a.BT, .slice ao rl.length ca, .int .i64 a.G] 50)) := (Below.refl _ _).alloc (Nat.le_refl _) _
  obtain ⟨M, hM⟩ : ∃ M, M = mAt q rl rl.length := ⟨_, rfl⟩
  have hM0 : 0 ≤ M := by rw [hM]; unfold mAt; omega
  have hM1 : ¬ M < 0 := by omega
  have hC := heldRecS_same _ _ rl us q h0 hq (HV.out.below hb (Nat.le_refl _))
  rw [← hM] at hC hq ⊢
  clear hM
  go_enter Try.func34, Try.ntmps34
  go_wp2_with fail
  refine hC.mono ?_
  rintro e w1 ⟨rfl, rfl⟩
  clear hC
  go_wp2
  go_ret
  exact ⟨rfl, hb⟩
end Go.Proofs.Ytipcdioolafkpag.walhelp
