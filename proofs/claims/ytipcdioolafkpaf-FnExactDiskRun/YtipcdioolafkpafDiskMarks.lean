/- Contracts of the laws' own helpers on disks: equal, marked, held. -/
import Derived.Test.YtipcdioolafkpafDisks
namespace Go.Proofs.Ytipcdioolafkpaf.diskmarks
open Go.ChangeShapes Go.WideShapes Go.ChangeAt Go.RowKit
open Go.Proofs.Ytipcdioolafkpaf.bytes Go.Proofs.Ytipcdioolafkpaf.pile Go.Proofs.Ytipcdioolafkpaf.reader Go.Proofs.Ytipcdioolafkpaf.lists Go.Proofs.Ytipcdioolafkpaf.sizes Go.Proofs.Ytipcdioolafkpaf.marked Go.Proofs.Ytipcdioolafkpaf.disks
set_option linter.unusedVariables false

theorem below_drew' {w w' : World} {B : Nat} (h : Below B w w') (n : Nat) : Below B w (w'.drewN n) := ⟨h.os, h.tape, h.output, h.size, h.block⟩

set_option maxHeartbeats 800000 in
theorem eqDisk_same (w : World) (s p s' p' : Value) (xs : List Int) (us us' : List Value) (cs : List (List Int)) (h1 : RdA w s xs) (h2 : RdS w p us) (h3 : Texts w us cs) (g1 : RdA w s' xs) (g2 : RdS w p' us') (g3 : Texts w us' cs) :
    Calls Try.prog 31 #[.agg #[s, p], .agg #[s', p']] w fun e w' => e = .returned (.bool true) ∧ Below w.heap.size w w' := by
  have HS : Hid (RdA w s xs ∧ RdS w p us ∧ Texts w us cs ∧ RdA w s' xs ∧ RdS w p' us' ∧ Texts w us' cs) := ⟨h1, h2, h3, g1, g2, g3⟩
  obtain ⟨⟨a0, c0, rfl, _, _⟩, _⟩ := h1
  obtain ⟨a1, c1, rfl, _, _⟩ := h2
  obtain ⟨⟨b0, e0, rfl, _, _⟩, _⟩ := g1
  obtain ⟨b1, e1, rfl, _, _⟩ := g2
  clear h3 g3
  have HB : Hid (Below w.heap.size w ((w.alloc (.cells #[.slice a0 xs.length c0, .slice a1 us.length c1] 43)).alloc (.cells #[.slice b0 xs.length e0, .slice b1 us'.length e1] 43))) := ((Below.refl _ _).alloc (Nat.le_refl _) _).alloc (by simp) _
  go_enter Try.func31, Try.ntmps31
  go_wp2_with fail
  refine (eq_same _ _ _ xs (HS.out.1.below HB.out (Nat.le_refl _)).1 (HS.out.2.2.2.1.below HB.out (Nat.le_refl _)).1).mono ?_
  rintro e w1 ⟨rfl, n1, rfl⟩
  go_wp2_with fail
  refine (eqs_same _ _ _ us us' cs (by exact (HS.out.2.1.below (below_drew' HB.out n1) (Nat.le_refl _))) (by exact (HS.out.2.2.2.2.1.below (below_drew' HB.out n1) (Nat.le_refl _))) (by exact (HS.out.2.2.1.below (below_drew' HB.out n1) (Nat.le_refl _))) (by exact (HS.out.2.2.2.2.2.below (below_drew' HB.out n1) (Nat.le_refl _)))).mono ?_
  rintro e w2 ⟨rfl, n2, rfl⟩
  go_wp2
  go_ret
  exact ⟨rfl, by exact below_drew' HB.out _⟩

theorem Touch.alloc (us : List Value) (w : World) (o : Obj) : Go.Proofs.Ytipcdioolafkpaf.marked.Touch us w (w.alloc o) := ⟨rfl, rfl, rfl, by simp, fun k hk _ => Below.heap_alloc w o k hk⟩
theorem Touch.cons {us : List Value} {s : Value} {w w1 w2 : World} (h : Go.Proofs.Ytipcdioolafkpaf.marked.Touch (s :: us) w w1) (t : Go.Proofs.Ytipcdioolafkpaf.marked.Touch us w1 w2) : Go.Proofs.Ytipcdioolafkpaf.marked.Touch (s :: us) w w2 :=
  ⟨t.1.trans h.1, t.2.1.trans h.2.1, t.2.2.1.trans h.2.2.1, Nat.le_trans h.2.2.2.1 t.2.2.2.1, fun k hk hn => (t.2.2.2.2 k (by have := h.2.2.2.1; omega) (fun i hi => hn (i + 1) (by simp; omega))).trans (h.2.2.2.2 k hk hn)⟩
theorem Touch.first {us : List Value} {s : Value} {w w1 w2 : World} (h : Go.Proofs.Ytipcdioolafkpaf.marked.Touch (s :: us) w w1) (hg : w1.grownBy w2 s.ownBlock) : Go.Proofs.Ytipcdioolafkpaf.marked.Touch (s :: us) w w2 :=
  h.step (i := 0) (by simp) hg

theorem DiskAt.below {w w' : World} {base B : Nat} {s p : Value} {xs : List Int} {us : List Value} {cs : List (List Int)} (h : DiskAt w base s p xs us cs) (hb : Below B w w') (hB : w.heap.size ≤ B) : DiskAt w' base s p xs us cs := ⟨h.synced.below hb hB, h.writes.below hb hB, h.apart⟩
theorem DiskAt.span {w w' : World} {base hi : Nat} {s p : Value} {xs : List Int} {us : List Value} {cs : List (List Int)} (h : DiskAt w base s p xs us cs) (hs : Keep base hi w w') (hh : w.heap.size ≤ hi) : DiskAt w' base s p xs us cs := ⟨Own.span h.synced hs hh, Ans.spanK h.writes hs hh, h.apart⟩

/-- A disk that is marked. -/
structure DiskMarked (w : World) (base : Nat) (s p : Value) (xs : List Int) (us : List Value) (cs : List (List Int)) (q : Int) : Prop where
  synced : Own w base s (marks q xs.length)
  writes : MP w base p us cs (q + xs.length) us.length
theorem DiskMarked.below {w w' : World} {base : Nat} {s p : Value} {xs : List Int} {us : List Value} {cs : List (List Int)} {q : Int} (h : DiskMarked w base s p xs us cs q) (hb : Below w.heap.size w w') : DiskMarked w' base s p xs us cs q := ⟨h.synced.below hb (Nat.le_refl _), h.writes.below hb⟩

set_option maxHeartbeats 800000 in
theorem markDisk_own (w : World) (base : Nat) (s p : Value) (xs : List Int) (us : List Value) (cs : List (List Int)) (q : Int) (h0 : 0 ≤ q) (hq : q + xs.length + cs.flatten.length ≤ 4611686018427387904) (h : DiskAt w base s p xs us cs) :
    Calls Try.prog 35 #[.agg #[s, p], .int .i64 q] w fun e w' => e = .returned (.int .i64 (q + xs.length + cs.flatten.length)) ∧ DiskMarked w' base s p xs us cs q ∧ Go.Proofs.Ytipcdioolafkpaf.marked.Touch (s :: us) w w' := by
  have HD : Hid (DiskAt w base s p xs us cs) := h
  obtain ⟨T, hT⟩ : ∃ T, T = cs.flatten.length := ⟨_, rfl⟩
  have HT : Hid (T = cs.flatten.length) := hT
  rw [← hT] at hq ⊢
  clear hT
  obtain ⟨a0, c0, rfl, _⟩ := h.synced.rd
  obtain ⟨a1, c1, rfl, _⟩ := h.writes.rdS
  clear h
  obtain ⟨W0, hW0⟩ : ∃ W0, W0 = w.alloc (.cells #[.slice a0 xs.length c0, .slice a1 us.length c1] 43) := ⟨_, rfl⟩
  have b0 : Below w.heap.size w W0 := by rw [hW0]; exact (Below.refl _ _).alloc (Nat.le_refl _) _
  have k0 : W0.heap[w.heap.size]? = some (.cells #[.slice a0 xs.length c0, .slice a1 us.length c1] 43 (0, 0)) := by rw [hW0]; exact heap_alloc_new w _
  have D0 := DiskAt.below HD.out b0 (Nat.le_refl _)
  have hC := mark_own W0 base _ q xs h0 (by omega) D0.synced
  have t0 : Go.Proofs.Ytipcdioolafkpaf.marked.Touch (.slice a0 xs.length c0 :: us) w W0 := by rw [hW0]; exact Touch.alloc _ w _
  rw [hW0] at hC
  go_enter Try.func35, Try.ntmps35
  go_wp2_with fail
  refine hC.mono ?_
  rw [← hW0]
  rintro e w1 ⟨rfl, O1, g1⟩
  have hne : (Value.slice a0 xs.length c0).ownBlock ≠ some w.heap.size := fun e => by have := (HD.out.synced.lt _ e).2; omega
  have k1 : w1.heap[w.heap.size]? = some (.cells #[.slice a0 xs.length c0, .slice a1 us.length c1] 43 (0, 0)) := (g1.block _ (Array.getElem?_eq_some_iff.1 k0).1 (fun e => hne e.symm)).trans k0
  have c1' := cell_of k1 (i := 1) rfl
  have A1 : Ans w1 base (.slice a1 us.length c1) us cs := by
    refine ⟨World.ownsRow.kept D0.writes.row g1 (row_ne' D0.synced D0.writes.row), D0.writes.pile.1, fun i hi => own_kept (D0.writes.pile.2.1 i hi) g1 ?_, D0.writes.pile.2.2⟩
    cases hv : (us.getD i (.slice none 0 0)).ownBlock with
    | none => exact .inl rfl
    | some k => exact .inr fun e => HD.out.apart i hi k hv e.symm
  have HA1 : Hid (Ans w1 base (.slice a1 us.length c1) us cs ∧ Own w1 base (.slice a0 xs.length c0) (marks q xs.length) ∧ Go.Proofs.Ytipcdioolafkpaf.marked.Touch (.slice a0 xs.length c0 :: us) w w1) := ⟨A1, O1, Touch.first t0 g1⟩
  clear hC O1 g1 A1 D0 k0 k1 t0 b0 hne
  go_wp2_with fail
  refine (marks_touch w1 base _ us cs (q + xs.length) (by omega) (by rw [← HT.out]; omega) (MP.of_pile _ HA1.out.1.row HA1.out.1.pile)).mono ?_
  rintro e w2 ⟨rfl, M2, t2⟩
  rw [← HT.out]
  have HF : Hid (DiskMarked w2 base (.slice a0 xs.length c0) (.slice a1 us.length c1) xs us cs q ∧ Go.Proofs.Ytipcdioolafkpaf.marked.Touch (.slice a0 xs.length c0 :: us) w w2) := by
    exact hide ⟨⟨t2.own HA1.out.2.1 HD.out.apart, M2⟩, Touch.cons HA1.out.2.2 t2⟩
  clear M2 t2 HA1
  go_wp2
  go_ret
  exact ⟨rfl, HF.out⟩

set_option maxHeartbeats 800000 in
theorem heldDisk_same (w : World) (base : Nat) (s p : Value) (xs : List Int) (us : List Value) (cs : List (List Int)) (q : Int) (h0 : 0 ≤ q) (hq : q + xs.length + cs.flatten.length ≤ 4611686018427387904) (h : DiskMarked w base s p xs us cs q) :
    Calls Try.prog 37 #[.agg #[s, p], .int .i64 q] w fun e w' => e = .returned (.int .i64 (q + xs.length + cs.flatten.length)) ∧ Below w.heap.size w w' := by
  have HD : Hid (DiskMarked w base s p xs us cs q) := h
  obtain ⟨T, hT⟩ : ∃ T, T = cs.flatten.length := ⟨_, rfl⟩
  have HT : Hid (T = cs.flatten.length) := hT
  rw [← hT] at hq ⊢
  clear hT
  obtain ⟨a0, c0, hs, _⟩ := h.synced.rd
  rw [marks_length] at hs
  subst hs
  obtain ⟨a1, c1, rfl, _⟩ := row_rdS h.writes.row
  clear h
  have HB : Hid (Below w.heap.size w (w.alloc (.cells #[.slice a0 xs.length c0, .slice a1 us.length c1] 43))) := (Below.refl _ _).alloc (Nat.le_refl _) _
  have hn1 : ¬ q + (xs.length : Int) < 0 := by omega
  have hn2 : ¬ q + (xs.length : Int) + T < 0 := by omega
  go_enter Try.func37, Try.ntmps37
  go_wp2_with fail
  refine (held_same _ _ q xs.length h0 (by omega) (HD.out.below HB.out).synced.rd).mono ?_
  rintro e w1 ⟨rfl, hw1⟩
  subst hw1
  go_wp2_with fail
  refine (helds_same _ base _ us cs (q + xs.length) (by omega) (by rw [← HT.out]; omega) (HD.out.below HB.out).writes).mono ?_
  rintro e w1 ⟨rfl, hw1⟩
  subst hw1
  rw [← HT.out]
  go_wp2
  go_ret
  exact ⟨rfl, HB.out⟩
end Go.Proofs.Ytipcdioolafkpaf.diskmarks
