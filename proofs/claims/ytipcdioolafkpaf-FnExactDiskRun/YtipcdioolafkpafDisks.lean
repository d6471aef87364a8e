/- Contracts of the laws' own helpers on disks: how large, copied, equal, marked. -/
import Derived.Test.YtipcdioolafkpafMarks
import Derived.Deep.RegionLaw
namespace Go.Proofs.Ytipcdioolafkpaf.disks
open Go.ChangeShapes Go.WideShapes Go.ChangeAt Go.RowKit
open Go.Proofs.Ytipcdioolafkpaf.bytes Go.Proofs.Ytipcdioolafkpaf.pile Go.Proofs.Ytipcdioolafkpaf.reader Go.Proofs.Ytipcdioolafkpaf.lists Go.Proofs.Ytipcdioolafkpaf.sizes Go.Proofs.Ytipcdioolafkpaf.marked
set_option linter.unusedVariables false

set_option maxHeartbeats 800000 in
theorem szDisk_any (w : World) (s p : Value) (xs : List Int) (us : List Value) (cs : List (List Int)) (n : Int) (h0 : 0 ≤ n) (h1 : n ≤ 1048576) (hs : RdA w s xs) (hp : RdS w p us) (ht : Texts w us cs) :
    Calls Try.prog 38 #[.agg #[s, p], .int .i64 n] w fun e w' => (∃ r : Int, e = .returned (.int .i64 r) ∧ (r < 0 ∨ (0 ≤ r ∧ r + xs.length + us.length + cs.flatten.length = n))) ∧ Below w.heap.size w w' := by
  have HS : Hid (RdA w s xs ∧ RdS w p us ∧ Texts w us cs) := ⟨hs, hp, ht⟩
  obtain ⟨⟨a0, c0, rfl, _, h2, _⟩, _⟩ := hs
  obtain ⟨a1, c1, rfl, _, h4, _⟩ := hp
  unfold maxLen at h2 h4
  clear ht
  obtain ⟨T, hT⟩ : ∃ T, T = cs.flatten.length := ⟨_, rfl⟩
  have HT : Hid (T = cs.flatten.length) := hT
  rw [← hT]
  clear hT
  have hba : Below w.heap.size w (w.alloc (.cells #[.slice a0 xs.length c0, .slice a1 us.length c1] 55)) := (Below.refl _ _).alloc (Nat.le_refl _) _
  go_enter Try.func38, Try.ntmps38
  go_wp2_with fail
  refine (sz_any _ _ xs n h0 h1 (HS.out.1.below hba (Nat.le_refl _)).1).mono ?_
  rintro e w1 ⟨rfl, hw1⟩
  subst hw1
  by_cases hc : n < xs.length
  · rw [if_pos hc]
    go_wp2
    go_ret
    exact ⟨⟨_, rfl, .inl (by omega)⟩, hba⟩
  · rw [if_neg hc]
    have hc' : ¬ n - (xs.length : Int) < 0 := by omega
    go_wp2_with fail
    refine (szs_any _ _ us cs (n - xs.length) (by omega) (by omega) (HS.out.2.1.below hba (Nat.le_refl _)) (HS.out.2.2.below hba (Nat.le_refl _))).mono ?_
    rintro e w1 ⟨⟨r, rfl, hr⟩, hw1⟩
    subst hw1
    rw [← HT.out] at hr
    rcases hr with hr | ⟨hr, hsum⟩
    · go_wp2
      go_ret
      exact ⟨⟨_, rfl, .inl (by omega)⟩, hba⟩
    · have hr' : ¬ r < 0 := by omega
      go_wp2
      go_ret
      exact ⟨⟨_, rfl, .inr ⟨hr, by omega⟩⟩, hba⟩

theorem cell_of {w : World} {b i : Nat} {cur : Array Value} {t : Nat} {v : Value} (h : w.heap[b]? = some (.cells cur t (0, 0))) (hv : cur[i]? = some v) : w.cell? ⟨b, i, none⟩ = some v := by simp [World.cell?, h, hv]
theorem frozen_of {w : World} {b : Nat} {cur : Array Value} {t : Nat} (h : w.heap[b]? = some (.cells cur t (0, 0))) (i : Nat) : w.frozen? ⟨b, i, none⟩ = false := by simp [World.frozen?, h]

theorem row_mono' {w : World} {base base' : Nat} {v : Value} {n : Nat} {us : List Value} (h : w.ownsRow base 22 1 v n us) (hb : base' ≤ base) : w.ownsRow base' 22 1 v n us := by
  obtain ⟨h1, h2 | ⟨g, c, cur, hv, hbg, r⟩⟩ := h
  · exact ⟨h1, .inl h2⟩
  · exact ⟨h1, .inr ⟨g, c, cur, hv, by omega, r⟩⟩
theorem three_blocks (w : World) (o1 o2 o3 : Obj) : (((w.alloc o1).alloc o2).alloc o3).heap[w.heap.size]? = some o1 ∧ (((w.alloc o1).alloc o2).alloc o3).heap[w.heap.size + 1]? = some o2 ∧ (((w.alloc o1).alloc o2).alloc o3).heap[w.heap.size + 2]? = some o3 := by
  have s1 : (w.alloc o1).heap.size = w.heap.size + 1 := by simp
  have s2 : ((w.alloc o1).alloc o2).heap.size = w.heap.size + 2 := by simp
  refine ⟨?_, ?_, ?_⟩
  · rw [Below.heap_alloc _ _ _ (by omega), Below.heap_alloc _ _ _ (by omega)]
    exact heap_alloc_new w o1
  · rw [Below.heap_alloc _ _ _ (by omega), ← s1]
    exact heap_alloc_new (w.alloc o1) o2
  · rw [← s2]
    exact heap_alloc_new ((w.alloc o1).alloc o2) o3

/-- A disk of the program's own type, in memory of its own: its synced bytes first, its writes behind them. -/
structure DiskAt (w : World) (base : Nat) (s p : Value) (xs : List Int) (us : List Value) (cs : List (List Int)) : Prop where
  synced : Own w base s xs
  writes : Ans w base p us cs
  apart : ∀ i, i < us.length → ∀ k, (us.getD i (.slice none 0 0)).ownBlock = some k → s.ownBlock ≠ some k

/-- A copy of a disk. -/
def DiskCopy (w : World) (xs : List Int) (cs : List (List Int)) (v : Value) (w' : World) : Prop :=
  ∃ o n c o2 c2 us, v = .agg #[.slice o n c, .slice o2 us.length c2] ∧ DiskAt w' w.heap.size (.slice o n c) (.slice o2 us.length c2) xs us cs ∧ Below w.heap.size w w'

set_option maxHeartbeats 800000 in
theorem toDisk_own (w : World) (s p : Value) (xs : List Int) (us : List Value) (cs : List (List Int)) (hs : RdA w s xs) (hp : RdS w p us) (ht : Texts w us cs) (hl : xs.length ≤ 281474976710656) (hn : us.length ≤ 1048576) (hx : ∀ i, (cs.getD i []).length ≤ 281474976710656) :
    Calls Try.prog 40 #[.agg #[s, p]] w fun e w' => ∃ v, e = .returned v ∧ DiskCopy w xs cs v w' := by
  have HS : Hid (RdA w s xs ∧ RdS w p us ∧ Texts w us cs) := ⟨hs, hp, ht⟩
  have HX : Hid (∀ i, (cs.getD i []).length ≤ 281474976710656) := hx
  obtain ⟨⟨a0, c0, rfl, _, h2, _⟩, _⟩ := hs
  obtain ⟨a1, c1, rfl, _, h4, _⟩ := hp
  unfold maxLen at h2 h4
  clear ht hx
  obtain ⟨W0, hW0⟩ : ∃ W0, W0 = ((w.alloc (.cells #[.slice a0 xs.length c0, .slice a1 us.length c1] 55)).alloc (.cells #[.slice none 0 0, .slice none 0 0] 43)).alloc (.cells #[.slice none 0 0, .slice none 0 0] 43) := ⟨_, rfl⟩
  have sz0 : W0.heap.size = w.heap.size + 3 := by rw [hW0]; simp
  have b0 : Below w.heap.size w W0 := by rw [hW0]; exact (((Below.refl _ _).alloc (Nat.le_refl _) _).alloc (by simp) _).alloc (by simp; omega) _
  have k0 : W0.heap[w.heap.size]? = some (.cells #[.slice a0 xs.length c0, .slice a1 us.length c1] 55 (0, 0)) := by rw [hW0]; exact (three_blocks w _ _ _).1
  have k1 : W0.heap[w.heap.size + 1]? = some (.cells #[.slice none 0 0, .slice none 0 0] 43 (0, 0)) := by rw [hW0]; exact (three_blocks w _ _ _).2.1
  have k2 : W0.heap[w.heap.size + 2]? = some (.cells #[.slice none 0 0, .slice none 0 0] 43 (0, 0)) := by rw [hW0]; exact (three_blocks w _ _ _).2.2
  have HTo : Hid (Calls Try.prog 10 #[.slice a0 xs.length c0] W0 fun e w' => ∃ v, e = .returned v ∧ Own w' W0.heap.size v xs ∧ Below W0.heap.size W0 w') := to_own W0 _ xs hl (HS.out.1.below b0 (Nat.le_refl _)).1
  go_enter Try.func40, Try.ntmps40
  go_wp2_with fail
  rw [hW0] at HTo
  refine HTo.out.mono ?_
  rw [← hW0]
  rintro e w1 ⟨v1, rfl, O1, b1⟩
  obtain ⟨o1, n1, hv1, hn1, _⟩ := O1.rd
  subst hv1
  have s1 := b1.size
  have k10 : w1.heap[w.heap.size]? = some (.cells #[.slice a0 xs.length c0, .slice a1 us.length c1] 55 (0, 0)) := (b1.block _ (by omega)).trans k0
  have k11 : w1.heap[w.heap.size + 1]? = some (.cells #[.slice none 0 0, .slice none 0 0] 43 (0, 0)) := (b1.block _ (by omega)).trans k1
  have k12 : w1.heap[w.heap.size + 2]? = some (.cells #[.slice none 0 0, .slice none 0 0] 43 (0, 0)) := (b1.block _ (by omega)).trans k2
  obtain ⟨w2, hw2⟩ : ∃ w2, w2 = w1.setCell ⟨w.heap.size + 2, 0, none⟩ (.slice o1 xs.length n1) := ⟨_, rfl⟩
  have k20 : w2.heap[w.heap.size]? = some (.cells #[.slice a0 xs.length c0, .slice a1 us.length c1] 55 (0, 0)) := by rw [hw2, Below.heap_setCell _ _ _ _ (by simp)]; exact k10
  have k22 : w2.heap[w.heap.size + 2]? = some (.cells #[.slice o1 xs.length n1, .slice none 0 0] 43 (0, 0)) := by rw [hw2]; have := heap_setCell_same w1 (w.heap.size + 2) 0 _ 43 (.slice o1 xs.length n1) k12; simpa using this
  have c12 := cell_of k12 (i := 0) rfl
  have f12 := frozen_of k12 0
  have c20 := cell_of k20 (i := 1) rfl
  rw [hw2] at c20
  have hd1 : (Value.slice o1 xs.length n1).ownBlock ≠ some (w.heap.size + 2) := own_other O1.2 k12 (by decide)
  have O2 : Own w2 W0.heap.size (.slice o1 xs.length n1) xs := by rw [hw2]; exact own_setCell O1 hd1 _
  have b2 : Below w.heap.size w w2 := by rw [hw2]; exact (b0.trans (b1.mono (by omega))).setCell (p := ⟨w.heap.size + 2, 0, none⟩) (by simp) _
  have s2 : w2.heap.size = w1.heap.size := by rw [hw2]; simp
  have hC := tos_own w2 _ us cs (HS.out.2.1.below b2 (Nat.le_refl _)) (HS.out.2.2.below b2 (Nat.le_refl _)) hn (fun i _ => HX.out i)
  rw [hw2] at hC
  go_wp2_with fail
  refine hC.mono ?_
  rw [← hw2]
  rintro e w3 ⟨v3, rfl, vs, A3, b3⟩
  obtain ⟨o3, n3, hv3, hn3, _⟩ := A3.rdS
  subst hv3
  have s3 := b3.size
  have k21 : w2.heap[w.heap.size + 1]? = some (.cells #[.slice none 0 0, .slice none 0 0] 43 (0, 0)) := by rw [hw2, Below.heap_setCell _ _ _ _ (by simp)]; exact k11
  have k31 : w3.heap[w.heap.size + 1]? = some (.cells #[.slice none 0 0, .slice none 0 0] 43 (0, 0)) := (b3.block _ (by omega)).trans k21
  have k32 : w3.heap[w.heap.size + 2]? = some (.cells #[.slice o1 xs.length n1, .slice none 0 0] 43 (0, 0)) := (b3.block _ (by omega)).trans k22
  have c32 := cell_of k32 (i := 1) rfl
  have f32 := frozen_of k32 1
  obtain ⟨w4, hw4⟩ : ∃ w4, w4 = w3.setCell ⟨w.heap.size + 2, 1, none⟩ (.slice o3 vs.length n3) := ⟨_, rfl⟩
  have k42 : w4.heap[w.heap.size + 2]? = some (.cells #[.slice o1 xs.length n1, .slice o3 vs.length n3] 43 (0, 0)) := by rw [hw4]; have := heap_setCell_same w3 (w.heap.size + 2) 1 _ 43 (.slice o3 vs.length n3) k32; simpa using this
  have k41 : w4.heap[w.heap.size + 1]? = some (.cells #[.slice none 0 0, .slice none 0 0] 43 (0, 0)) := by rw [hw4, Below.heap_setCell _ _ _ _ (by simp)]; exact k31
  have c420 := cell_of k42 (i := 0) rfl
  have c421 := cell_of k42 (i := 1) rfl
  have c410 := cell_of k41 (i := 0) rfl
  have c411 := cell_of k41 (i := 1) rfl
  have f410 := frozen_of k41 0
  have f411 := frozen_of k41 1
  rw [hw4] at c420 c421 c410 c411 f410 f411
  obtain ⟨w6, hw6⟩ : ∃ w6, w6 = (w4.setCell ⟨w.heap.size + 1, 0, none⟩ (.slice o1 xs.length n1)).setCell ⟨w.heap.size + 1, 1, none⟩ (.slice o3 vs.length n3) := ⟨_, rfl⟩
  have k51 : (w4.setCell ⟨w.heap.size + 1, 0, none⟩ (.slice o1 xs.length n1)).heap[w.heap.size + 1]? = some (.cells #[.slice o1 xs.length n1, .slice none 0 0] 43 (0, 0)) := by have := heap_setCell_same w4 (w.heap.size + 1) 0 _ 43 (.slice o1 xs.length n1) k41; simpa using this
  have k61 : w6.heap[w.heap.size + 1]? = some (.cells #[.slice o1 xs.length n1, .slice o3 vs.length n3] 43 (0, 0)) := by rw [hw6]; have := heap_setCell_same _ (w.heap.size + 1) 1 _ 43 (.slice o3 vs.length n3) k51; simpa using this
  have c610 := cell_of k61 (i := 0) rfl
  have c611 := cell_of k61 (i := 1) rfl
  have HE : Hid (DiskCopy w xs cs (.agg #[.slice o1 xs.length n1, .slice o3 vs.length n3]) w6) := by
    have d3 := own_other (O2.below b3 (Nat.le_refl _)).2 k32 (by decide)
    have O3 := O2.below b3 (Nat.le_refl _)
    have O4 : Own w4 W0.heap.size (.slice o1 xs.length n1) xs := by rw [hw4]; exact own_setCell O3 d3 _
    have O6 : Own w6 W0.heap.size (.slice o1 xs.length n1) xs := by
      rw [hw6]
      have e := own_other O4.2 k41 (by decide)
      exact own_setCell (own_setCell O4 e _) (a := ⟨w.heap.size + 1, 1, none⟩) e _
    have b36 : Below w2.heap.size w3 w3 := Below.refl _ _
    have hk : Keep w2.heap.size w3.heap.size w3 w6 := fun k h1 h2 => by
      rw [hw6, Below.heap_setCell _ _ _ _ (by simp; omega), Below.heap_setCell _ _ _ _ (by simp; omega), hw4, Below.heap_setCell _ _ _ _ (by simp; omega)]
    have A6 := Ans.spanK A3 hk (Nat.le_refl _)
    have b6 : Below w.heap.size w w6 := by
      rw [hw6, hw4]
      exact (((b2.trans (b3.mono (by omega))).setCell (p := ⟨w.heap.size + 2, 1, none⟩) (by simp) _).setCell (p := ⟨w.heap.size + 1, 0, none⟩) (by simp) _).setCell (p := ⟨w.heap.size + 1, 1, none⟩) (by simp) _
    refine hide ⟨o1, xs.length, n1, o3, n3, vs, rfl, ⟨O6.mono (by omega), ⟨row_mono' A6.row (by omega), A6.pile.mono (by omega)⟩, fun i hi k hk hk2 => ?_⟩, b6⟩
    have h1 := ((A3.pile.2.1 i hi).lt k hk).1
    have h2 := (O2.lt k hk2).2
    omega
  rw [hw6, hw4] at c610 c611 HE
  clear hC
  go_wp2
  refine bodyPost_ret (v := .agg #[.slice o1 xs.length n1, .slice o3 vs.length n3]) (by simp [results, Try.results40, go_sem, c610, c611]) rfl ⟨_, rfl, HE.out⟩
end Go.Proofs.Ytipcdioolafkpaf.disks
