/- Rows of acts: what is owned; the laws' own helpers on them: how large, copied, equal, marked. -/
import Derived.Test.YtipcdioolafkpafImplRun
import Derived.Deep.RegionHeldLaw
import Derived.Deep.RegionLaw
namespace Go.Proofs.Ytipcdioolafkpaf.actrows
open Go.ChangeShapes Go.WideShapes Go.ChangeAt Go.RowKit
open Go.Proofs.Ytipcdioolafkpaf.bytes Go.Proofs.Ytipcdioolafkpaf.pile Go.Proofs.Ytipcdioolafkpaf.reader Go.Proofs.Ytipcdioolafkpaf.lists Go.Proofs.Ytipcdioolafkpaf.sizes Go.Proofs.Ytipcdioolafkpaf.marked Go.Proofs.Ytipcdioolafkpaf.disks Go.Proofs.Ytipcdioolafkpaf.crashes Go.Proofs.Ytipcdioolafkpaf.acts Go.Proofs.Ytipcdioolafkpaf.diskof Go.Proofs.Ytipcdioolafkpaf.beside Go.Proofs.Ytipcdioolafkpaf.doside Go.Proofs.Ytipcdioolafkpaf.implrun
set_option linter.unusedVariables false

theorem kept {w w' : World} {B k : Nat} {o : Obj} (h : Below B w w') (hk : w.heap[k]? = some o) (hB : w.heap.size ≤ B) : w'.heap[k]? = some o := (h.block k (by have := (Array.getElem?_eq_some_iff.1 hk).1; omega)).trans hk
theorem cell_at {w w' : World} {B : Nat} {a : Addr} {v : Value} (h : Below B w w') (hc : w.cell? a = some v) (hB : w.heap.size ≤ B) : w'.cell? a = some v := (h.cell (by have := cell_lt hc; omega)).trans hc
theorem new_at {w : World} {o : Obj} {k : Nat} (h : w.heap.size = k) : (w.alloc o).heap[k]? = some o := by subst h; exact heap_alloc_new w o
theorem below3 (w : World) (o1 o2 o3 : Obj) : Below w.heap.size w (((w.alloc o1).alloc o2).alloc o3) := (((Below.refl _ _).alloc (Nat.le_refl _) _).alloc (by simp) _).alloc (by simp; omega) _

theorem bdrew {B : Nat} {w w' : World} (h : Below B w w') (n : Nat) : Below B w (w'.drewN n) := ⟨h.os, h.tape, h.output, h.size, h.block⟩

/-- How many bytes the first k acts have. -/
def sumTo (al : List Act4) (k : Nat) : Nat := ((al.take k).map fun r => r.data.length).sum
theorem sumTo_succ {al : List Act4} {k : Nat} (h : k < al.length) : sumTo al (k + 1) = sumTo al k + (al.getD k ⟨0, 0, 0, []⟩).data.length := by
  have e : al.getD k ⟨0, 0, 0, []⟩ = al[k] := by simp [List.getD_eq_getElem?_getD, h]
  unfold sumTo
  rw [List.take_succ_eq_append_getElem h, e, List.map_append, List.sum_append]
  rfl
theorem sumTo_le (al : List Act4) (k : Nat) : sumTo al k ≤ sumTo al al.length := by
  unfold sumTo
  rw [List.take_length]
  have : al = al.take k ++ al.drop k := (List.take_append_drop k al).symm
  conv => rhs; rw [this, List.map_append, List.sum_append]
  omega
theorem each_le {al : List Act4} {k : Nat} (h : k < al.length) : (al.getD k ⟨0, 0, 0, []⟩).data.length ≤ sumTo al al.length := by
  have h1 := sumTo_succ h
  have h2 := sumTo_le al (k + 1)
  omega

/-- The slice value v owns, in world w, these acts and their bytes, in blocks from base on. -/
structure OwnActs (w : World) (base : Nat) (v : Value) (al : List Act4) (us : List Value) : Prop where
  len : us.length = al.length
  row : ∃ ao cap, v = .slice ao al.length cap ∧ al.length ≤ cap ∧ cap ≤ maxLen ∧ (0 < al.length → ∃ g off cur, ao = some ⟨g, off, none⟩ ∧ base ≤ g ∧ w.heap[g]? = some (.cells cur 74 (0, 0)) ∧ ∀ k, k < al.length → cur[off + k * 4]? = some (.int .i64 (al.getD k ⟨0, 0, 0, []⟩).kind) ∧ cur[off + k * 4 + 1]? = some (.int .i64 (al.getD k ⟨0, 0, 0, []⟩).keep) ∧ cur[off + k * 4 + 2]? = some (.int .i64 (al.getD k ⟨0, 0, 0, []⟩).torn) ∧ cur[off + k * 4 + 3]? = some (us.getD k (.slice none 0 0)))
  each : ∀ k, k < al.length → Own w base (us.getD k (.slice none 0 0)) (al.getD k ⟨0, 0, 0, []⟩).data
  apart : ∀ j k, j < al.length → k < al.length → j ≠ k → ∀ b, (us.getD j (.slice none 0 0)).ownBlock = some b → (us.getD k (.slice none 0 0)).ownBlock ≠ some b
theorem OwnActs.rd {w : World} {base : Nat} {v : Value} {al : List Act4} {us : List Value} (h : OwnActs w base v al us) : RdActs w v al := by
  obtain ⟨ao, cap, rfl, h1, h2, h4⟩ := h.row
  refine ⟨ao, cap, rfl, h1, h2, fun hp => ?_⟩
  obtain ⟨g, off, cur, rfl, _, hg, hc⟩ := h4 hp
  exact ⟨g, off, rfl, fun k hk => ⟨(us.getD k (.slice none 0 0)), Own.rdA (h.each k hk), cell_of hg (hc k hk).1, cell_of hg (hc k hk).2.1, cell_of hg (hc k hk).2.2.1, cell_of hg (hc k hk).2.2.2⟩⟩
theorem OwnActs.below {w w' : World} {base B : Nat} {v : Value} {al : List Act4} {us : List Value} (h : OwnActs w base v al us) (hb : Below B w w') (hB : w.heap.size ≤ B) : OwnActs w' base v al us where
  len := h.len
  row := by
    obtain ⟨ao, cap, rfl, h1, h2, h4⟩ := h.row
    refine ⟨ao, cap, rfl, h1, h2, fun hp => ?_⟩
    obtain ⟨g, off, cur, rfl, hbg, hg, hc⟩ := h4 hp
    exact ⟨g, off, cur, rfl, hbg, kept hb hg hB, hc⟩
  each := fun k hk => (h.each k hk).below hb hB
  apart := h.apart
theorem OwnActs.mono {w : World} {base base' : Nat} {v : Value} {al : List Act4} {us : List Value} (h : OwnActs w base v al us) (hb : base' ≤ base) : OwnActs w base' v al us where
  len := h.len
  row := by
    obtain ⟨ao, cap, rfl, h1, h2, h4⟩ := h.row
    refine ⟨ao, cap, rfl, h1, h2, fun hp => ?_⟩
    obtain ⟨g, off, cur, rfl, hbg, hg, hc⟩ := h4 hp
    exact ⟨g, off, cur, rfl, by omega, hg, hc⟩
  each := fun k hk => (h.each k hk).mono hb
  apart := h.apart

set_option maxHeartbeats 800000 in
theorem szAct_any (w : World) (a : Act4) (u : Value) (n : Int) (h0 : 0 ≤ n) (h1 : n ≤ 1048576) (hu : RdA w u a.data) :
    Calls Try.prog 52 #[.agg #[.int .i64 a.kind, .int .i64 a.keep, .int .i64 a.torn, u], .int .i64 n] w fun e w' => (∃ r : Int, e = .returned (.int .i64 r) ∧ (r < 0 ∨ (0 ≤ r ∧ r + a.data.length = n))) ∧ Below w.heap.size w w' := by
  have HU : Hid (RdA w u a.data) := hu
  obtain ⟨⟨uo, uc, rfl, _, h2, _⟩, _⟩ := hu
  unfold maxLen at h2
  have hba : Below w.heap.size w (w.alloc (.cells #[.int .i64 a.kind, .int .i64 a.keep, .int .i64 a.torn, .slice uo a.data.length uc] 71)) := (Below.refl _ _).alloc (Nat.le_refl _) _
  go_enter Try.func52, Try.ntmps52
  go_wp2_with fail
  refine (sz_any _ _ a.data n h0 h1 (HU.out.below hba (Nat.le_refl _)).1).mono ?_
  rintro e w1 ⟨rfl, hw1⟩
  subst hw1
  by_cases hc : n < a.data.length
  · rw [if_pos hc]
    go_wp2
    go_ret
    exact ⟨⟨_, rfl, .inl (by omega)⟩, hba⟩
  · rw [if_neg hc]
    have hc' : ¬ n - (a.data.length : Int) < 0 := by omega
    go_wp2
    go_ret
    exact ⟨⟨_, rfl, .inr ⟨by omega, by omega⟩⟩, hba⟩

/-- A copy of an act. -/
def ActCopy (w : World) (a : Act4) (v : Value) (w' : World) : Prop :=
  ∃ o c, v = .agg #[.int .i64 a.kind, .int .i64 a.keep, .int .i64 a.torn, .slice o a.data.length c] ∧ Own w' w.heap.size (.slice o a.data.length c) a.data ∧ Below w.heap.size w w'

set_option maxHeartbeats 2000000 in
theorem toAct_own (w : World) (a : Act4) (u : Value) (hu : RdA w u a.data) (hl : a.data.length ≤ 281474976710656) :
    Calls Try.prog 54 #[.agg #[.int .i64 a.kind, .int .i64 a.keep, .int .i64 a.torn, u]] w fun e w' => ∃ v, e = .returned v ∧ ActCopy w a v w' := by
  have HU : Hid (RdA w u a.data) := hu
  obtain ⟨⟨uo, uc, rfl, _⟩, _⟩ := hu
  obtain ⟨W0, hW0⟩ : ∃ W0, W0 = ((w.alloc (.cells #[.int .i64 a.kind, .int .i64 a.keep, .int .i64 a.torn, .slice uo a.data.length uc] 71)).alloc (.cells #[.int .i64 0, .int .i64 0, .int .i64 0, .slice none 0 0] 74)).alloc (.cells #[.int .i64 a.kind, .int .i64 a.keep, .int .i64 a.torn, .slice none 0 0] 74) := ⟨_, rfl⟩
  have sz0 : W0.heap.size = w.heap.size + 3 := by rw [hW0]; simp
  have b0 : Below w.heap.size w W0 := by rw [hW0]; exact below3 w _ _ _
  have k1 : W0.heap[w.heap.size + 1]? = some (.cells #[.int .i64 0, .int .i64 0, .int .i64 0, .slice none 0 0] 74 (0, 0)) := by rw [hW0]; exact (three_blocks w _ _ _).2.1
  have k2 : W0.heap[w.heap.size + 2]? = some (.cells #[.int .i64 a.kind, .int .i64 a.keep, .int .i64 a.torn, .slice none 0 0] 74 (0, 0)) := by rw [hW0]; exact (three_blocks w _ _ _).2.2
  have hC := to_own W0 _ a.data hl (HU.out.below b0 (Nat.le_refl _)).1
  rw [hW0] at hC
  go_enter Try.func54, Try.ntmps54
  go_wp2_with fail
  refine hC.mono ?_
  rw [← hW0]
  rintro e w1 ⟨v1, rfl, O1, b1⟩
  obtain ⟨o1, n1, hv1, _⟩ := O1.rd
  subst hv1
  have q1 := kept b1 k1 (Nat.le_refl _)
  have q2 := kept b1 k2 (Nat.le_refl _)
  have b1' : Below w.heap.size w w1 := b0.trans (b1.mono (by omega))
  have x22 := cell_of q2 (i := 3) rfl
  have y22 := frozen_of q2 3
  have q3 : (w1.setCell ⟨w.heap.size + 2, 3, none⟩ (.slice o1 a.data.length n1)).heap[w.heap.size + 2]? = some (.cells #[.int .i64 a.kind, .int .i64 a.keep, .int .i64 a.torn, .slice o1 a.data.length n1] 74 (0, 0)) := by
    have := heap_setCell_same w1 (w.heap.size + 2) 3 _ 74 (.slice o1 a.data.length n1) q2
    simpa using this
  have q3' : (w1.setCell ⟨w.heap.size + 2, 3, none⟩ (.slice o1 a.data.length n1)).heap[w.heap.size + 1]? = some (.cells #[.int .i64 0, .int .i64 0, .int .i64 0, .slice none 0 0] 74 (0, 0)) := by
    rw [Below.heap_setCell _ _ _ _ (by simp)]; exact q1
  have z0 := cell_of q3 (i := 0) rfl
  have z1 := cell_of q3 (i := 1) rfl
  have z2 := cell_of q3 (i := 2) rfl
  have z3 := cell_of q3 (i := 3) rfl
  have r0 := cell_of q3' (i := 0) rfl
  have r1 := cell_of q3' (i := 1) rfl
  have r2 := cell_of q3' (i := 2) rfl
  have r3 := cell_of q3' (i := 3) rfl
  have f0 := frozen_of q3' 0
  have f1 := frozen_of q3' 1
  have f2 := frozen_of q3' 2
  have f3 := frozen_of q3' 3
  have hne2 : (Value.slice o1 a.data.length n1).ownBlock ≠ some (w.heap.size + 2) := own_other O1.2 q2 (by decide)
  have hne1 : (Value.slice o1 a.data.length n1).ownBlock ≠ some (w.heap.size + 1) := own_other O1.2 q1 (by decide)
  obtain ⟨w2, hw2⟩ : ∃ w2, w2 = w1.setCell ⟨w.heap.size + 2, 3, none⟩ (.slice o1 a.data.length n1) := ⟨_, rfl⟩
  have O2 : Own w2 W0.heap.size (.slice o1 a.data.length n1) a.data := by rw [hw2]; exact own_setCell O1 hne2 _
  have b2 : Below w.heap.size w w2 := by rw [hw2]; exact b1'.setCell (p := ⟨w.heap.size + 2, 3, none⟩) (by simp) _
  rw [← hw2] at z0 z1 z2 z3 r0 r1 r2 r3 f0 f1 f2 f3 q3'
  have e0 : (w2.setCell ⟨w.heap.size + 1, 0, none⟩ (.int .i64 a.kind)).heap[w.heap.size + 1]? = some (.cells #[.int .i64 a.kind, .int .i64 0, .int .i64 0, .slice none 0 0] 74 (0, 0)) := by have := heap_setCell_same w2 (w.heap.size + 1) 0 _ 74 (.int .i64 a.kind) q3'; simpa using this
  have e1 : ((w2.setCell ⟨w.heap.size + 1, 0, none⟩ (.int .i64 a.kind)).setCell ⟨w.heap.size + 1, 1, none⟩ (.int .i64 a.keep)).heap[w.heap.size + 1]? = some (.cells #[.int .i64 a.kind, .int .i64 a.keep, .int .i64 0, .slice none 0 0] 74 (0, 0)) := by have := heap_setCell_same _ (w.heap.size + 1) 1 _ 74 (.int .i64 a.keep) e0; simpa using this
  have e2 : (((w2.setCell ⟨w.heap.size + 1, 0, none⟩ (.int .i64 a.kind)).setCell ⟨w.heap.size + 1, 1, none⟩ (.int .i64 a.keep)).setCell ⟨w.heap.size + 1, 2, none⟩ (.int .i64 a.torn)).heap[w.heap.size + 1]? = some (.cells #[.int .i64 a.kind, .int .i64 a.keep, .int .i64 a.torn, .slice none 0 0] 74 (0, 0)) := by have := heap_setCell_same _ (w.heap.size + 1) 2 _ 74 (.int .i64 a.torn) e1; simpa using this
  obtain ⟨w3, hw3⟩ : ∃ w3, w3 = (((w2.setCell ⟨w.heap.size + 1, 0, none⟩ (.int .i64 a.kind)).setCell ⟨w.heap.size + 1, 1, none⟩ (.int .i64 a.keep)).setCell ⟨w.heap.size + 1, 2, none⟩ (.int .i64 a.torn)).setCell ⟨w.heap.size + 1, 3, none⟩ (.slice o1 a.data.length n1) := ⟨_, rfl⟩
  have e3 : w3.heap[w.heap.size + 1]? = some (.cells #[.int .i64 a.kind, .int .i64 a.keep, .int .i64 a.torn, .slice o1 a.data.length n1] 74 (0, 0)) := by rw [hw3]; have := heap_setCell_same _ (w.heap.size + 1) 3 _ 74 (.slice o1 a.data.length n1) e2; simpa using this
  have g0 := cell_of e3 (i := 0) rfl
  have g1 := cell_of e3 (i := 1) rfl
  have g2 := cell_of e3 (i := 2) rfl
  have g3 := cell_of e3 (i := 3) rfl
  have HE : Hid (ActCopy w a (.agg #[.int .i64 a.kind, .int .i64 a.keep, .int .i64 a.torn, .slice o1 a.data.length n1]) w3) := by
    refine hide ⟨o1, n1, rfl, ?_, ?_⟩
    · rw [hw3]
      exact (own_setCell (own_setCell (own_setCell (own_setCell O2 (a := ⟨w.heap.size + 1, 0, none⟩) hne1 _) (a := ⟨w.heap.size + 1, 1, none⟩) hne1 _) (a := ⟨w.heap.size + 1, 2, none⟩) hne1 _) (a := ⟨w.heap.size + 1, 3, none⟩) hne1 _).mono (by omega)
    · rw [hw3]
      exact (((b2.setCell (p := ⟨w.heap.size + 1, 0, none⟩) (by simp) _).setCell (p := ⟨w.heap.size + 1, 1, none⟩) (by simp) _).setCell (p := ⟨w.heap.size + 1, 2, none⟩) (by simp) _).setCell (p := ⟨w.heap.size + 1, 3, none⟩) (by simp) _
  rw [hw3, hw2] at g0 g1 g2 g3 HE
  rw [hw2] at z0 z1 z2 z3 r0 r1 r2 r3 f0 f1 f2 f3
  clear hC hw3 hw2 e0 e1 e2 e3 O2 b2 O1 b1 b1' hW0 q1 q2 q3 q3' k1 k2 b0 hne1 hne2
  go_wp2
  exact bodyPost_ret (v := .agg #[.int .i64 a.kind, .int .i64 a.keep, .int .i64 a.torn, .slice o1 a.data.length n1]) (by simp [results, Try.results54, go_sem, g0, g1, g2, g3]) rfl ⟨_, rfl, HE.out⟩

set_option maxHeartbeats 800000 in
theorem eqAct_same (w : World) (a : Act4) (u v : Value) (hu : RdA w u a.data) (hv : RdA w v a.data) :
    Calls Try.prog 57 #[.agg #[.int .i64 a.kind, .int .i64 a.keep, .int .i64 a.torn, u], .agg #[.int .i64 a.kind, .int .i64 a.keep, .int .i64 a.torn, v]] w fun e w' => e = .returned (.bool true) ∧ Below w.heap.size w w' := by
  have HU : Hid (RdA w u a.data ∧ RdA w v a.data) := ⟨hu, hv⟩
  obtain ⟨⟨uo, uc, rfl, _⟩, _⟩ := hu
  obtain ⟨⟨vo, vc, rfl, _⟩, _⟩ := hv
  have hb : Below w.heap.size w ((w.alloc (.cells #[.int .i64 a.kind, .int .i64 a.keep, .int .i64 a.torn, .slice uo a.data.length uc] 74)).alloc (.cells #[.int .i64 a.kind, .int .i64 a.keep, .int .i64 a.torn, .slice vo a.data.length vc] 74)) := ((Below.refl _ _).alloc (Nat.le_refl _) _).alloc (by simp) _
  have n1 : (a.kind != a.kind) = false := by simp
  have n2 : (a.keep != a.keep) = false := by simp
  have n3 : (a.torn != a.torn) = false := by simp
  go_enter Try.func57, Try.ntmps57
  go_wp2_with fail
  refine (eq_same _ _ _ a.data (HU.out.1.below hb (Nat.le_refl _)).1 (HU.out.2.below hb (Nat.le_refl _)).1).mono ?_
  rintro e w1 ⟨rfl, n, rfl⟩
  go_wp2
  go_ret
  exact ⟨rfl, bdrew hb n⟩

set_option maxHeartbeats 1000000 in
theorem szActS_any (w : World) (v : Value) (al : List Act4) (n : Int) (h0 : 0 ≤ n) (h1 : n ≤ 1048576) (hv : RdActs w v al) :
    Calls Try.prog 26 #[v, .int .i64 n] w fun e w' => (∃ r : Int, e = .returned (.int .i64 r) ∧ (r < 0 ∨ (0 ≤ r ∧ r + al.length + sumTo al al.length = n))) ∧ Below w.heap.size w w' := by
  obtain ⟨T, hT⟩ : ∃ T, T = sumTo al al.length := ⟨_, rfl⟩
  have HTT : Hid (T = sumTo al al.length) := hT
  rw [← hT]
  clear hT
  obtain ⟨ao, ca, rfl, ha1, ha2, ha3⟩ := hv
  unfold maxLen at ha2
  by_cases hc : n - (al.length : Int) < 0
  · go_enter Try.func26, Try.ntmps26
    go_wp2
    go_ret
    exact ⟨⟨_, rfl, .inl (by omega)⟩, Below.refl _ _⟩
  · go_enter Try.func26, Try.ntmps26
    go_wp2
    go_loopw [1, 5] (fun q' i wr => ∃ (k : Nat) (q : Int), k ≤ al.length ∧ i = .int .i64 k ∧ q' = .int .i64 q ∧ 0 ≤ q ∧ q ≤ 1048576 ∧ Hid (q + al.length + sumTo al k = n ∧ Below w.heap.size w wr)) (fun _ i _ => al.length - (intOf i).toNat)
    case atStart => exact ⟨0, n - al.length, by omega, rfl, by go_num, by omega, by omega, hide ⟨by simp [sumTo], Below.refl _ _⟩⟩
    case round =>
      obtain ⟨k, q, hk, rfl, rfl, hq0, hq1, HQ⟩ := hrel
      by_cases hlt : k < al.length
      · obtain ⟨ab, aoff, rfl, hca⟩ := ha3 (by omega)
        obtain ⟨u, hu, g0, g1, g2, g3⟩ := hca k hlt
        have c0 := cell_at HQ.out.2 g0 (Nat.le_refl _)
        have c1 := cell_at HQ.out.2 g1 (Nat.le_refl _)
        have c2 := cell_at HQ.out.2 g2 (Nat.le_refl _)
        have c3 := cell_at HQ.out.2 g3 (Nat.le_refl _)
        have HS : Hid (sumTo al (k + 1) = sumTo al k + (al.getD k ⟨0, 0, 0, []⟩).data.length) := sumTo_succ hlt
        have HR : Hid (RdA wr u (al.getD k ⟨0, 0, 0, []⟩).data) := hu.below HQ.out.2 (Nat.le_refl _)
        clear hca ha3 g0 g1 g2 g3 hu
        generalize al.getD k ⟨0, 0, 0, []⟩ = r at c0 c1 c2 HR HS
        obtain ⟨⟨uo, uc, rfl, _⟩, _⟩ := HR.out
        go_wp2_with fail
        refine (szAct_any wr r _ q hq0 hq1 HR.out).mono ?_
        rintro e w1 ⟨⟨r2, rfl, hr⟩, b1⟩
        have HB1 : Hid (Below w.heap.size w w1) := HQ.out.2.trans (b1.mono HQ.out.2.size)
        clear b1
        rcases hr with hr | ⟨hr, hsum⟩
        · go_wp2
          go_ret
          exact ⟨⟨_, rfl, .inl (by omega)⟩, HB1.out⟩
        · have hr' : ¬ r2 < 0 := by omega
          have HE : Hid (r2 + al.length + sumTo al (k + 1) = n) := by have h1 := HQ.out.1; have h2 := HS.out; show _ = _; omega
          have hrm : r2 ≤ 1048576 := by omega
          clear hsum
          go_wp2
          go_roundw
          case rel => exact ⟨k + 1, r2, by omega, by go_num, rfl, by omega, by omega, hide ⟨HE.out, HB1.out⟩⟩
          case measure => simp [intOf]; omega
      · have HE : Hid (q + al.length + T = n ∧ Below w.heap.size w wr) := by
          have := HQ.out
          rw [show k = al.length by omega, ← HTT.out] at this
          exact this
        go_wp2
        go_ret
        exact ⟨⟨_, rfl, .inr ⟨hq0, HE.out.1⟩⟩, HE.out.2⟩

theorem get4_other {cur : Array Value} {p m : Nat} {a b c d : Value} (h : m < p ∨ p + 3 < m) : ((((cur.setIfInBounds p a).setIfInBounds (p + 1) b).setIfInBounds (p + 2) c).setIfInBounds (p + 3) d)[m]? = cur[m]? := by
  rw [Array.getElem?_setIfInBounds_ne (by omega), Array.getElem?_setIfInBounds_ne (by omega), Array.getElem?_setIfInBounds_ne (by omega), Array.getElem?_setIfInBounds_ne (by omega)]
theorem get4_at {cur : Array Value} {p : Nat} {a b c d : Value} (h : p + 3 < cur.size) : ((((cur.setIfInBounds p a).setIfInBounds (p + 1) b).setIfInBounds (p + 2) c).setIfInBounds (p + 3) d)[p]? = some a ∧ ((((cur.setIfInBounds p a).setIfInBounds (p + 1) b).setIfInBounds (p + 2) c).setIfInBounds (p + 3) d)[p + 1]? = some b ∧ ((((cur.setIfInBounds p a).setIfInBounds (p + 1) b).setIfInBounds (p + 2) c).setIfInBounds (p + 3) d)[p + 2]? = some c ∧ ((((cur.setIfInBounds p a).setIfInBounds (p + 1) b).setIfInBounds (p + 2) c).setIfInBounds (p + 3) d)[p + 3]? = some d := by
  refine ⟨?_, ?_, ?_, ?_⟩
  · rw [Array.getElem?_setIfInBounds_ne (by omega), Array.getElem?_setIfInBounds_ne (by omega), Array.getElem?_setIfInBounds_ne (by omega), Array.getElem?_setIfInBounds_self_of_lt (by omega)]
  · rw [Array.getElem?_setIfInBounds_ne (by omega), Array.getElem?_setIfInBounds_ne (by omega), Array.getElem?_setIfInBounds_self_of_lt (by simp; omega)]
  · rw [Array.getElem?_setIfInBounds_ne (by omega), Array.getElem?_setIfInBounds_self_of_lt (by simp; omega)]
  · rw [Array.getElem?_setIfInBounds_self_of_lt (by simp; omega)]

/-- The first k of n acts are laid, the others are zero. -/
structure RowK (cur : Array Value) (al : List Act4) (us : List Value) (n k : Nat) : Prop where
  size : cur.size = n * 4
  laid : ∀ j, j < k → cur[j * 4]? = some (.int .i64 (al.getD j ⟨0, 0, 0, []⟩).kind) ∧ cur[j * 4 + 1]? = some (.int .i64 (al.getD j ⟨0, 0, 0, []⟩).keep) ∧ cur[j * 4 + 2]? = some (.int .i64 (al.getD j ⟨0, 0, 0, []⟩).torn) ∧ cur[j * 4 + 3]? = some (us.getD j (.slice none 0 0))
  zero : ∀ j, k ≤ j → j < n → cur[j * 4]? = some (.int .i64 0) ∧ cur[j * 4 + 1]? = some (.int .i64 0) ∧ cur[j * 4 + 2]? = some (.int .i64 0) ∧ cur[j * 4 + 3]? = some (.slice none 0 0)
theorem RowK.step {cur : Array Value} {al : List Act4} {us : List Value} {n k : Nat} (h : RowK cur al us n k) (hk : k < n) (hu : us.length = k) (u : Value) :
    RowK ((((cur.setIfInBounds (k * 4) (.int .i64 (al.getD k ⟨0, 0, 0, []⟩).kind)).setIfInBounds (k * 4 + 1) (.int .i64 (al.getD k ⟨0, 0, 0, []⟩).keep)).setIfInBounds (k * 4 + 2) (.int .i64 (al.getD k ⟨0, 0, 0, []⟩).torn)).setIfInBounds (k * 4 + 3) u) al (us ++ [u]) n (k + 1) where
  size := by simpa using h.size
  laid := fun j hj => by
    have hs := h.size
    by_cases e : j = k
    · subst e
      have e1 : (us ++ [u]).getD j (.slice none 0 0) = u := by subst hu; simp [List.getD_eq_getElem?_getD]
      rw [e1]
      exact get4_at (by omega)
    · have e1 : (us ++ [u]).getD j (.slice none 0 0) = us.getD j (.slice none 0 0) := by simp [List.getD_eq_getElem?_getD, List.getElem?_append_left (show j < us.length by omega)]
      rw [e1, get4_other (by omega), get4_other (by omega), get4_other (by omega), get4_other (by omega)]
      exact h.laid j (by omega)
  zero := fun j hj hn => by
    rw [get4_other (by omega), get4_other (by omega), get4_other (by omega), get4_other (by omega)]
    exact h.zero j (by omega) hn

theorem info74 : (Try.prog.info? 74).map (fun i => (i.zero, i.size, i.bytes)) = some (some (.agg #[.int .i64 0, .int .i64 0, .int .i64 0, .slice none 0 0]), 4, 48) := by kernel_rfl
theorem made4 (n : Nat) {cur : Array Value} (hs : cur.size = n * 4) (h : cur.toList.take (n * 4) = (madeCells (Value.agg #[.int .i64 0, .int .i64 0, .int .i64 0, .slice none 0 0]).cells (n * 4)).toList) : RowK cur [] [] n 0 := by
  have hc : cur.toList = (madeCells (Value.agg #[.int .i64 0, .int .i64 0, .int .i64 0, .slice none 0 0]).cells (n * 4)).toList := by
    rw [← h, List.take_of_length_le (by simp [hs])]
  have hcur : cur = madeCells (Value.agg #[.int .i64 0, .int .i64 0, .int .i64 0, .slice none 0 0]).cells (n * 4) := Array.toList_inj.1 hc
  refine ⟨hs, fun j hj => by omega, fun j _ hj => ?_⟩
  rw [hcur]
  have m0 : j * 4 % 4 = 0 := by omega
  have m1 : (j * 4 + 1) % 4 = 1 := by omega
  have m2 : (j * 4 + 2) % 4 = 2 := by omega
  have m3 : (j * 4 + 3) % 4 = 3 := by omega
  refine ⟨?_, ?_, ?_, ?_⟩
  · simp [madeCells, Value.cells, m0, show j * 4 < n * 4 by omega]
  · simp [madeCells, Value.cells, m1, show j * 4 + 1 < n * 4 by omega]
  · simp [madeCells, Value.cells, m2, show j * 4 + 2 < n * 4 by omega]
  · simp [madeCells, Value.cells, m3, show j * 4 + 3 < n * 4 by omega]

/-- What a copy of acts holds when the first k are laid. -/
structure CopyK (w wr : World) (n : Nat) (al : List Act4) (us : List Value) (k : Nat) : Prop where
  len : us.length = k
  row : ∃ cur, wr.heap[w.heap.size]? = some (.cells cur 74 (0, 0)) ∧ RowK cur al us n k
  each : ∀ j, j < k → Own wr w.heap.size (us.getD j (.slice none 0 0)) (al.getD j ⟨0, 0, 0, []⟩).data
  apart : ∀ i j, i < k → j < k → i ≠ j → ∀ b, (us.getD i (.slice none 0 0)).ownBlock = some b → (us.getD j (.slice none 0 0)).ownBlock ≠ some b
  bel : Below w.heap.size w wr

theorem CopyK.step {w wr w1 : World} {n : Nat} {al : List Act4} {us : List Value} {k : Nat} (h : CopyK w wr n al us k) (hk : k < n) {u : Value} (hb : Below wr.heap.size wr w1) (hO : Own w1 wr.heap.size u (al.getD k ⟨0, 0, 0, []⟩).data) :
    CopyK w ((((w1.setCell ⟨w.heap.size, k * 4, none⟩ (.int .i64 (al.getD k ⟨0, 0, 0, []⟩).kind)).setCell ⟨w.heap.size, k * 4 + 1, none⟩ (.int .i64 (al.getD k ⟨0, 0, 0, []⟩).keep)).setCell ⟨w.heap.size, k * 4 + 2, none⟩ (.int .i64 (al.getD k ⟨0, 0, 0, []⟩).torn)).setCell ⟨w.heap.size, k * 4 + 3, none⟩ u) n al (us ++ [u]) (k + 1) := by
  obtain ⟨cur, hg, hr⟩ := h.row
  have hg1 : w1.heap[w.heap.size]? = some (.cells cur 74 (0, 0)) := kept hb hg (Nat.le_refl _)
  have hs := h.bel.size
  have e0 := heap_setCell_same w1 w.heap.size (k * 4) cur 74 (.int .i64 (al.getD k ⟨0, 0, 0, []⟩).kind) hg1
  have e1 := heap_setCell_same _ w.heap.size (k * 4 + 1) _ 74 (.int .i64 (al.getD k ⟨0, 0, 0, []⟩).keep) e0
  have e2 := heap_setCell_same _ w.heap.size (k * 4 + 2) _ 74 (.int .i64 (al.getD k ⟨0, 0, 0, []⟩).torn) e1
  have e3 := heap_setCell_same _ w.heap.size (k * 4 + 3) _ 74 u e2
  have gk : ∀ j, j < k → (us ++ [u]).getD j (.slice none 0 0) = us.getD j (.slice none 0 0) := fun j hj => by simp [List.getD_eq_getElem?_getD, List.getElem?_append_left (show j < us.length by rw [h.len]; exact hj)]
  have gl : (us ++ [u]).getD k (.slice none 0 0) = u := by have := h.len; subst this; simp [List.getD_eq_getElem?_getD]
  have set4 : ∀ {v : Value} {xs : List Int}, Own w1 w.heap.size v xs → Own ((((w1.setCell ⟨w.heap.size, k * 4, none⟩ (.int .i64 (al.getD k ⟨0, 0, 0, []⟩).kind)).setCell ⟨w.heap.size, k * 4 + 1, none⟩ (.int .i64 (al.getD k ⟨0, 0, 0, []⟩).keep)).setCell ⟨w.heap.size, k * 4 + 2, none⟩ (.int .i64 (al.getD k ⟨0, 0, 0, []⟩).torn)).setCell ⟨w.heap.size, k * 4 + 3, none⟩ u) w.heap.size v xs := fun {v xs} ho => by
    have hne : v.ownBlock ≠ some w.heap.size := own_other ho.2 hg1 (by decide)
    exact own_setCell (own_setCell (own_setCell (own_setCell ho (a := ⟨w.heap.size, k * 4, none⟩) hne _) (a := ⟨w.heap.size, k * 4 + 1, none⟩) hne _) (a := ⟨w.heap.size, k * 4 + 2, none⟩) hne _) (a := ⟨w.heap.size, k * 4 + 3, none⟩) hne _
  refine ⟨by rw [List.length_append, h.len]; rfl, ⟨_, e3, hr.step hk h.len u⟩, fun j hj => ?_, fun i j hi hj hij b hbi hbj => ?_, ?_⟩
  · by_cases e : j < k
    · rw [gk j e]
      exact set4 ((h.each j e).below hb (Nat.le_refl _))
    · have : j = k := by omega
      subst this
      rw [gl]
      exact set4 (hO.mono hs)
  · by_cases ei : i < k
    · rw [gk i ei] at hbi
      by_cases ej : j < k
      · rw [gk j ej] at hbj
        exact h.apart i j ei ej hij b hbi hbj
      · have : j = k := by omega
        subst this
        rw [gl] at hbj
        have h1 := ((h.each i ei).lt b hbi).2
        have h2 := (hO.lt b hbj).1
        omega
    · have : i = k := by omega
      subst this
      rw [gl] at hbi
      rw [gk j (by omega)] at hbj
      have h1 := ((h.each j (by omega)).lt b hbj).2
      have h2 := (hO.lt b hbi).1
      omega
  · exact ((((h.bel.trans (hb.mono hs)).setCell (p := ⟨w.heap.size, k * 4, none⟩) (Nat.le_refl _) _).setCell (p := ⟨w.heap.size, k * 4 + 1, none⟩) (Nat.le_refl _) _).setCell (p := ⟨w.heap.size, k * 4 + 2, none⟩) (Nat.le_refl _) _).setCell (p := ⟨w.heap.size, k * 4 + 3, none⟩) (Nat.le_refl _) _

set_option maxRecDepth 20000 in
set_option maxHeartbeats 2000000 in
theorem toActS_own (w : World) (v : Value) (al : List Act4) (hv : RdActs w v al) (hn : al.length + sumTo al al.length ≤ 1048576) :
    Calls Try.prog 28 #[v] w fun e w' => ∃ v', e = .returned v' ∧ ∃ us', OwnActs w' w.heap.size v' al us' ∧ Below w.heap.size w w' ∧ ∀ k, v'.ownBlock = some k → w.heap.size ≤ k ∧ k < w'.heap.size := by
  have HX : Hid (∀ k, k < al.length → (al.getD k ⟨0, 0, 0, []⟩).data.length ≤ 281474976710656) := fun k hk => by have := each_le hk; omega
  obtain ⟨ao, ca, rfl, ha1, ha2, ha3⟩ := hv
  unfold maxLen at ha2
  have hn' : al.length ≤ 1048576 := by omega
  clear hn
  obtain ⟨i0, hi, hz0, hz1, hz2⟩ := info_parts info74
  have HI : Hid (Try.prog.info? 74 = some i0 ∧ i0.zero = some (.agg #[.int .i64 0, .int .i64 0, .int .i64 0, .slice none 0 0]) ∧ i0.size = 4 ∧ i0.bytes = 48) := ⟨hi, hz0, hz1, hz2⟩
  clear hi hz0 hz1 hz2
  go_enter Try.func28, Try.ntmps28
  go_wp2_with (at_make; refine wpList_make_full _ rfl _ _ 46 rfl w.heap.size 74 i0 (.agg #[.int .i64 0, .int .i64 0, .int .i64 0, .slice none 0 0]) 4 Try.underlying46 HI.out.1 HI.out.2.1 HI.out.2.2.1 .i64 .i64 _ _ al.length rfl rfl rfl rfl (by rw [HI.out.2.2.2]; omega) (by unfold maxLen; omega) (Nat.le_refl _) ?_; intro w1 hown1 hgrow1)
  have HW : Hid (CopyK w w1 al.length al [] 0) := by
    obtain ⟨_, ⟨e, _⟩ | ⟨g, cap, cur, e, _, hg, _, _, hcs, htake⟩⟩ := hown1
    · simp at e
    · simp only [Value.slice.injEq, Option.some.injEq, Addr.mk.injEq, and_true, true_and] at e
      obtain ⟨rfl, rfl⟩ := e
      have hm := made4 al.length hcs htake
      exact hide ⟨rfl, ⟨cur, hg, ⟨hm.size, fun j hj => by omega, hm.zero⟩⟩, fun j hj => by omega, fun i j hi => by omega, (Below.refl _ _).grown hgrow1 (Nat.le_refl _) (by simp)⟩
  clear hown1 hgrow1 HI
  go_loopw [4] (fun i wr => ∃ (k : Nat) (vs : List Value), k ≤ al.length ∧ i = .int .i64 k ∧ Hid (CopyK w wr al.length al vs k)) (fun i _ => al.length - (intOf i).toNat)
  case atStart => exact ⟨0, [], by omega, rfl, HW⟩
  case round =>
    clear HW
    obtain ⟨k, vs, hk, rfl, HR⟩ := hrel
    by_cases hlt : k < al.length
    · obtain ⟨ab, aoff, rfl, hca⟩ := ha3 (by omega)
      obtain ⟨u, hu, g0, g1, g2, g3⟩ := hca k hlt
      have c0 := cell_at HR.out.bel g0 (Nat.le_refl _)
      have c1 := cell_at HR.out.bel g1 (Nat.le_refl _)
      have c2 := cell_at HR.out.bel g2 (Nat.le_refl _)
      have c3 := cell_at HR.out.bel g3 (Nat.le_refl _)
      have HA : Hid (RdA wr u (al.getD k ⟨0, 0, 0, []⟩).data) := hu.below HR.out.bel (Nat.le_refl _)
      have hd := HX.out k hlt
      have HSt : Hid (∀ w1 u, Below wr.heap.size wr w1 → Own w1 wr.heap.size u (al.getD k ⟨0, 0, 0, []⟩).data → CopyK w ((((w1.setCell ⟨w.heap.size, k * 4, none⟩ (.int .i64 (al.getD k ⟨0, 0, 0, []⟩).kind)).setCell ⟨w.heap.size, k * 4 + 1, none⟩ (.int .i64 (al.getD k ⟨0, 0, 0, []⟩).keep)).setCell ⟨w.heap.size, k * 4 + 2, none⟩ (.int .i64 (al.getD k ⟨0, 0, 0, []⟩).torn)).setCell ⟨w.heap.size, k * 4 + 3, none⟩ u) al.length al (vs ++ [u]) (k + 1)) := fun w1 u hb hO => HR.out.step hlt hb hO
      have HZ : Hid (∀ w1, Below wr.heap.size wr w1 → (w1.cell? ⟨w.heap.size, k * 4, none⟩ = some (.int .i64 0) ∧ w1.cell? ⟨w.heap.size, k * 4 + 1, none⟩ = some (.int .i64 0) ∧ w1.cell? ⟨w.heap.size, k * 4 + 2, none⟩ = some (.int .i64 0) ∧ w1.cell? ⟨w.heap.size, k * 4 + 3, none⟩ = some (.slice none 0 0)) ∧ w1.frozen? ⟨w.heap.size, k * 4, none⟩ = false ∧ w1.frozen? ⟨w.heap.size, k * 4 + 1, none⟩ = false ∧ w1.frozen? ⟨w.heap.size, k * 4 + 2, none⟩ = false ∧ w1.frozen? ⟨w.heap.size, k * 4 + 3, none⟩ = false) := fun w1 hb => by
        obtain ⟨cur, hg, hr⟩ := HR.out.row
        have hg1 := kept hb hg (Nat.le_refl _)
        obtain ⟨z0, z1, z2, z3⟩ := hr.zero k (Nat.le_refl _) hlt
        exact ⟨⟨cell_of hg1 z0, cell_of hg1 z1, cell_of hg1 z2, cell_of hg1 z3⟩, frozen_of hg1 _, frozen_of hg1 _, frozen_of hg1 _, frozen_of hg1 _⟩
      clear hca ha3 g0 g1 g2 g3 hu
      generalize al.getD k ⟨0, 0, 0, []⟩ = r at c0 c1 c2 HA hd HSt
      obtain ⟨⟨uo, uc, rfl, _⟩, _⟩ := HA.out
      go_wp2_with fail
      refine (toAct_own wr r _ HA.out hd).mono ?_
      rintro e w1 ⟨v1, rfl, o1, c1', rfl, O1, b1⟩
      obtain ⟨⟨z0, z1, z2, z3⟩, f0, f1, f2, f3⟩ := HZ.out w1 b1
      have HN := hide (HSt.out w1 _ b1 O1)
      clear O1 b1 HSt HZ HR HA
      go_wp2
      go_roundw
      case rel => exact ⟨k + 1, vs ++ [.slice o1 r.data.length c1'], by omega, by go_num, HN⟩
      case measure => simp [intOf]; omega
    · obtain rfl : k = al.length := by omega
      go_wp2
      go_ret
      obtain ⟨cur, hg, hr⟩ := HR.out.row
      refine ⟨_, rfl, vs, ⟨HR.out.len, ⟨_, _, rfl, Nat.le_refl _, by unfold maxLen; omega, fun _ => ?_⟩, HR.out.each, HR.out.apart⟩, HR.out.bel, fun k hk => ?_⟩
      case refine_2 =>
        have e : k = w.heap.size := by
          have h2 : some w.heap.size = some k := hk
          simpa using h2.symm
        subst e
        exact ⟨Nat.le_refl _, (Array.getElem?_eq_some_iff.1 hg).1⟩
      exact ⟨w.heap.size, 0, cur, rfl, Nat.le_refl _, hg, fun j hj => by simpa using hr.laid j hj⟩

set_option maxRecDepth 20000 in
set_option maxHeartbeats 2000000 in
theorem eqActS_same (w : World) (a b : Value) (al : List Act4) (ha : RdActs w a al) (hb : RdActs w b al) :
    Calls Try.prog 32 #[a, b] w fun e w' => e = .returned (.bool true) ∧ Below w.heap.size w w' := by
  obtain ⟨ao, ca, rfl, ha1, ha2, ha3⟩ := ha
  obtain ⟨bo, cb, rfl, hb1, hb2, hb3⟩ := hb
  unfold maxLen at ha2 hb2
  have hne : (((al.length : Nat) : Int) != ((al.length : Nat) : Int)) = false := by simp
  go_enter Try.func32, Try.ntmps32
  go_wp2
  go_loopw [5] (fun i wr => ∃ k : Nat, k ≤ al.length ∧ i = .int .i64 k ∧ Hid (Below w.heap.size w wr)) (fun i _ => al.length - (intOf i).toNat)
  case atStart => exact ⟨0, by omega, rfl, hide (Below.refl _ _)⟩
  case round =>
    obtain ⟨k, hk, rfl, HR⟩ := hrel
    by_cases hlt : k < al.length
    · obtain ⟨ab, aoff, rfl, hca⟩ := ha3 (by omega)
      obtain ⟨bb, boff, rfl, hcb⟩ := hb3 (by omega)
      obtain ⟨u, hu, g0, g1, g2, g3⟩ := hca k hlt
      obtain ⟨v, hv, h0, h1, h2, h3⟩ := hcb k hlt
      have c0 := cell_at HR.out g0 (Nat.le_refl _)
      have c1 := cell_at HR.out g1 (Nat.le_refl _)
      have c2 := cell_at HR.out g2 (Nat.le_refl _)
      have c3 := cell_at HR.out g3 (Nat.le_refl _)
      have d0 := cell_at HR.out h0 (Nat.le_refl _)
      have d1 := cell_at HR.out h1 (Nat.le_refl _)
      have d2 := cell_at HR.out h2 (Nat.le_refl _)
      have d3 := cell_at HR.out h3 (Nat.le_refl _)
      have HU : Hid (RdA wr u (al.getD k ⟨0, 0, 0, []⟩).data ∧ RdA wr v (al.getD k ⟨0, 0, 0, []⟩).data) := ⟨hu.below HR.out (Nat.le_refl _), hv.below HR.out (Nat.le_refl _)⟩
      clear hca hcb ha3 hb3 g0 g1 g2 g3 h0 h1 h2 h3 hu hv
      generalize al.getD k ⟨0, 0, 0, []⟩ = r at c0 c1 c2 d0 d1 d2 HU
      obtain ⟨⟨uo, uc, rfl, _⟩, _⟩ := HU.out.1
      obtain ⟨⟨vo, vc, rfl, _⟩, _⟩ := HU.out.2
      have HK : Hid (∀ w', Below wr.heap.size wr w' → (w'.cell? ⟨ab, aoff + k * 4, none⟩ = some (.int .i64 r.kind) ∧ w'.cell? ⟨ab, aoff + k * 4 + 1, none⟩ = some (.int .i64 r.keep) ∧ w'.cell? ⟨ab, aoff + k * 4 + 2, none⟩ = some (.int .i64 r.torn) ∧ w'.cell? ⟨ab, aoff + k * 4 + 3, none⟩ = some (.slice uo r.data.length uc)) ∧ w'.cell? ⟨bb, boff + k * 4, none⟩ = some (.int .i64 r.kind) ∧ w'.cell? ⟨bb, boff + k * 4 + 1, none⟩ = some (.int .i64 r.keep) ∧ w'.cell? ⟨bb, boff + k * 4 + 2, none⟩ = some (.int .i64 r.torn) ∧ w'.cell? ⟨bb, boff + k * 4 + 3, none⟩ = some (.slice vo r.data.length vc)) := fun w' hb => ⟨⟨cell_at hb c0 (Nat.le_refl _), cell_at hb c1 (Nat.le_refl _), cell_at hb c2 (Nat.le_refl _), cell_at hb c3 (Nat.le_refl _)⟩, cell_at hb d0 (Nat.le_refl _), cell_at hb d1 (Nat.le_refl _), cell_at hb d2 (Nat.le_refl _), cell_at hb d3 (Nat.le_refl _)⟩
      have HE : Hid (∀ n, Calls Try.prog 57 #[.agg #[.int .i64 r.kind, .int .i64 r.keep, .int .i64 r.torn, .slice uo r.data.length uc], .agg #[.int .i64 r.kind, .int .i64 r.keep, .int .i64 r.torn, .slice vo r.data.length vc]] (wr.drewN n) fun e w'' => e = .returned (.bool true) ∧ Below wr.heap.size wr w'') := fun n => by
        have hq : Below wr.heap.size wr (wr.drewN n) := bdrew (Below.refl _ _) n
        refine (eqAct_same (wr.drewN n) r _ _ (HU.out.1.below hq (Nat.le_refl _)) (HU.out.2.below hq (Nat.le_refl _))).mono ?_
        rintro e w'' ⟨rfl, hb'⟩
        exact ⟨rfl, hq.trans hb'⟩
      go_wp2
      go_region_held_law (fun w' => (w'.cell? ⟨ab, aoff + k * 4, none⟩ = some (.int .i64 r.kind) ∧ w'.cell? ⟨ab, aoff + k * 4 + 1, none⟩ = some (.int .i64 r.keep) ∧ w'.cell? ⟨ab, aoff + k * 4 + 2, none⟩ = some (.int .i64 r.torn) ∧ w'.cell? ⟨ab, aoff + k * 4 + 3, none⟩ = some (.slice uo r.data.length uc)) ∧ w'.cell? ⟨bb, boff + k * 4, none⟩ = some (.int .i64 r.kind) ∧ w'.cell? ⟨bb, boff + k * 4 + 1, none⟩ = some (.int .i64 r.keep) ∧ w'.cell? ⟨bb, boff + k * 4 + 2, none⟩ = some (.int .i64 r.torn) ∧ w'.cell? ⟨bb, boff + k * 4 + 3, none⟩ = some (.slice vo r.data.length vc)) ((refine HK.out _ ?_; first | assumption | exact (Below.refl _ _).drew))
        (first | (go_at_call 57; refine (HE.out 1).mono ?_; rintro e w1 ⟨rfl, H1⟩))
      all_goals
        have H2 : Hid (Below w.heap.size w w1) := HR.out.trans (H1.mono HR.out.size)
        clear H1
        go_wp2
        go_roundw
        case rel => exact ⟨k + 1, by omega, by go_num, H2⟩
        case measure => simp [intOf]; omega
    · go_wp2
      go_ret
      exact ⟨rfl, HR.out⟩
end Go.Proofs.Ytipcdioolafkpaf.actrows
