/- slices.Clone, of records, of bools, of numbers; the records behind an index. -/
import Derived.Test.YtklkglbimjajnaaRows2
namespace Go.Proofs.Ytklkglbimjajnaa.clone
open Go.ChangeShapes Go.WideShapes Go.ChangeAt Go.RowKit
open Go.Proofs.Ytklkglbimjajnaa.Raft Go.Proofs.Ytklkglbimjajnaa.mem Go.Proofs.Ytklkglbimjajnaa.grp Go.Proofs.Ytklkglbimjajnaa.look Go.Proofs.Ytklkglbimjajnaa.ndw Go.Proofs.Ytklkglbimjajnaa.grant Go.Proofs.Ytklkglbimjajnaa.stand Go.Proofs.Ytklkglbimjajnaa.rows2
set_option linter.unusedVariables false
theorem info35 : (Try.prog.info? 38).map (fun i => (i.zero, i.size, i.bytes)) = some (some (.agg #[.int .i64 0, .int .i64 0, .slice none 0 0]), 3, 40) := by kernel_rfl
theorem litE {w : World} {k base e sz : Nat} (h : w.heap[k]? = some (.cells #[] e (0, 0))) (hb : base ≤ k) : w.ownsRow base e sz (.slice (some ⟨k, 0, none⟩) 0 0) 0 [] :=
  ⟨by simp, .inr ⟨k, 0, #[], rfl, hb, h, Nat.le_refl _, by simp [maxLen], by simp, by simp⟩⟩
/-- Behind a clone. -/
def CloneE (w : World) (e sz m : Nat) (news : List Value) (r : Ending) (w' : World) : Prop := ∃ v, r = .returned v ∧ w'.ownsRow w.heap.size e sz v m news ∧ Below w.heap.size w w'

theorem nil28 (W : World) : Sem.run Try.prog (binOp .eql 28 (.slice none 0 0) (.slice none 0 0)) W = .ok (.bool true) W := by kernel_rfl
theorem some28 (ad : Addr) (n c : Nat) (W : World) : Sem.run Try.prog (binOp .eql 28 (.slice (some ad) n c) (.slice none 0 0)) W = .ok (.bool false) W := by kernel_rfl
theorem clone_recs_nil (w : World) : Calls Try.prog 156 #[.slice none 0 0] w fun r w' => CloneE w 38 3 0 [] r w' := by
  have HE : Hid (CloneE w 38 3 0 [] (.returned (.slice none 0 0)) w) := ⟨_, rfl, World.ownsRow_nil _ _ _ _, Below.refl _ _⟩
  have hq := nil28
  go_enter Try.func156, Try.ntmps156
  go_wp2
  go_ret
  exact HE.out
set_option maxHeartbeats 800000 in
theorem clone_recs (w : World) (ad : Addr) (m c : Nat) (news : List Value) (hl : news.length = m * 3) (hnews : ∀ j u, news[j]? = some u → w.cell? (ad.add j) = some u) (h1 : ∀ u ∈ news, u.oneCell' = true) (hm : m ≤ 1000) :
    Calls Try.prog 156 #[.slice (some ad) m c] w fun r w' => CloneE w 38 3 m news r w' := by
  obtain ⟨i0, hi, hz0, hz1, hz2⟩ := info_parts info35
  have HI : Hid (Try.prog.info? 38 = some i0 ∧ i0.zero = some (.agg #[.int .i64 0, .int .i64 0, .slice none 0 0]) ∧ i0.size = 3 ∧ i0.bytes = 40) := ⟨hi, hz0, hz1, hz2⟩
  obtain ⟨W, hW⟩ : ∃ W, w.alloc (.cells #[] 38) = W := ⟨_, rfl⟩
  have bW : Below w.heap.size w W := by rw [← hW]; exact more (Below.refl _ _) _
  have hbx : W.heap[w.heap.size]? = some (.cells #[] 38 (0, 0)) := by rw [← hW]; exact heap_alloc_new w _
  have HO : Hid (W.ownsRow w.heap.size 38 3 (.slice (some ⟨w.heap.size, 0, none⟩) 0 0) 0 []) := litE hbx (Nat.le_refl _)
  have HN : Hid (∀ j u, news[j]? = some u → W.cell? (ad.add j) = some u) := fun j u hu => by
    have h2 := hnews j u hu
    have hlt : (ad.add j).block < w.heap.size := World.block_lt_of_cell? w _ h2
    rw [World.cell?_of_block (bW.block _ hlt)]
    exact h2
  have H1 := hide h1
  have HL := hide hl
  have HM := hide hm
  have HS : Hid (w.heap.size ≤ W.heap.size) := bW.size
  have HF : Hid (∀ v w', w'.ownsRow w.heap.size 38 3 v (0 + m) ([] ++ news) → W.grownBy w' (some w.heap.size) → CloneE w 38 3 m news (.returned v) w') := fun v w' q1 q2 => by
    rw [Nat.zero_add, List.nil_append] at q1
    exact ⟨v, rfl, q1, bW.grown q2 bW.size (fun k hk => by simp only [Option.some.injEq] at hk; omega)⟩
  clear hi hz0 hz1 hz2 bW hbx hnews h1 hl
  have hq := some28 ad m c
  go_enter Try.func156, Try.ntmps156
  go_wp2_with (at_builtin; refine wpList_append_own _ rfl _ _ 28 rfl w.heap.size 38 i0 (.agg #[.int .i64 0, .int .i64 0, .slice none 0 0]) 3 40 Try.underlying28 HI.out.1 HI.out.2.1 HI.out.2.2.1 HI.out.2.2.2 rfl (by decide) _ 0 [] rfl HO.out ad m c news rfl HL.out HN.out H1.out (by unfold maxLen; have := HM.out; omega) (by have := HM.out; omega) HS.out ?_; intro v w' q1 q2 _; have HC := hide (HF.out v w' q1 q2); clear q1 q2)
  go_ret
  exact HC.out

theorem nil55 (W : World) : Sem.run Try.prog (binOp .eql 34 (.slice none 0 0) (.slice none 0 0)) W = .ok (.bool true) W := by kernel_rfl
theorem some55 (ad : Addr) (n c : Nat) (W : World) : Sem.run Try.prog (binOp .eql 34 (.slice (some ad) n c) (.slice none 0 0)) W = .ok (.bool false) W := by kernel_rfl
theorem clone_bools_nil (w : World) : Calls Try.prog 98 #[.slice none 0 0] w fun r w' => CloneE w 4 1 0 [] r w' := by
  have HE : Hid (CloneE w 4 1 0 [] (.returned (.slice none 0 0)) w) := ⟨_, rfl, World.ownsRow_nil _ _ _ _, Below.refl _ _⟩
  have hq := nil55
  go_enter Try.func98, Try.ntmps98
  go_wp2
  go_ret
  exact HE.out
set_option maxHeartbeats 800000 in
theorem clone_bools (w : World) (ad : Addr) (m c : Nat) (news : List Value) (hl : news.length = m * 1) (hnews : ∀ j u, news[j]? = some u → w.cell? (ad.add j) = some u) (h1 : ∀ u ∈ news, u.oneCell' = true) (hm : m ≤ 1000) :
    Calls Try.prog 98 #[.slice (some ad) m c] w fun r w' => CloneE w 4 1 m news r w' := by
  obtain ⟨i0, hi, hz0, hz1, hz2⟩ := info_parts info4
  have HI : Hid (Try.prog.info? 4 = some i0 ∧ i0.zero = some (.bool false) ∧ i0.size = 1 ∧ i0.bytes = 1) := ⟨hi, hz0, hz1, hz2⟩
  obtain ⟨W, hW⟩ : ∃ W, w.alloc (.cells #[] 4) = W := ⟨_, rfl⟩
  have bW : Below w.heap.size w W := by rw [← hW]; exact more (Below.refl _ _) _
  have hbx : W.heap[w.heap.size]? = some (.cells #[] 4 (0, 0)) := by rw [← hW]; exact heap_alloc_new w _
  have HO : Hid (W.ownsRow w.heap.size 4 1 (.slice (some ⟨w.heap.size, 0, none⟩) 0 0) 0 []) := litE hbx (Nat.le_refl _)
  have HN : Hid (∀ j u, news[j]? = some u → W.cell? (ad.add j) = some u) := fun j u hu => by
    have h2 := hnews j u hu
    have hlt : (ad.add j).block < w.heap.size := World.block_lt_of_cell? w _ h2
    rw [World.cell?_of_block (bW.block _ hlt)]
    exact h2
  have H1 := hide h1
  have HL := hide hl
  have HM := hide hm
  have HS : Hid (w.heap.size ≤ W.heap.size) := bW.size
  have HF : Hid (∀ v w', w'.ownsRow w.heap.size 4 1 v (0 + m) ([] ++ news) → W.grownBy w' (some w.heap.size) → CloneE w 4 1 m news (.returned v) w') := fun v w' q1 q2 => by
    rw [Nat.zero_add, List.nil_append] at q1
    exact ⟨v, rfl, q1, bW.grown q2 bW.size (fun k hk => by simp only [Option.some.injEq] at hk; omega)⟩
  clear hi hz0 hz1 hz2 bW hbx hnews h1 hl
  have hq := some55 ad m c
  go_enter Try.func98, Try.ntmps98
  go_wp2_with (at_builtin; refine wpList_append_own _ rfl _ _ 34 rfl w.heap.size 4 i0 (.bool false) 1 1 Try.underlying34 HI.out.1 HI.out.2.1 HI.out.2.2.1 HI.out.2.2.2 rfl (by decide) _ 0 [] rfl HO.out ad m c news rfl HL.out HN.out H1.out (by unfold maxLen; have := HM.out; omega) (by have := HM.out; omega) HS.out ?_; intro v w' q1 q2 _; have HC := hide (HF.out v w' q1 q2); clear q1 q2)
  go_ret
  exact HC.out

theorem nil31 (W : World) : Sem.run Try.prog (binOp .eql 31 (.slice none 0 0) (.slice none 0 0)) W = .ok (.bool true) W := by kernel_rfl
theorem some31 (ad : Addr) (n c : Nat) (W : World) : Sem.run Try.prog (binOp .eql 31 (.slice (some ad) n c) (.slice none 0 0)) W = .ok (.bool false) W := by kernel_rfl
theorem clone_ints_nil (w : World) : Calls Try.prog 99 #[.slice none 0 0] w fun r w' => CloneE w 3 1 0 [] r w' := by
  have HE : Hid (CloneE w 3 1 0 [] (.returned (.slice none 0 0)) w) := ⟨_, rfl, World.ownsRow_nil _ _ _ _, Below.refl _ _⟩
  have hq := nil31
  go_enter Try.func99, Try.ntmps99
  go_wp2
  go_ret
  exact HE.out
set_option maxHeartbeats 800000 in
theorem clone_ints (w : World) (ad : Addr) (m c : Nat) (news : List Value) (hl : news.length = m * 1) (hnews : ∀ j u, news[j]? = some u → w.cell? (ad.add j) = some u) (h1 : ∀ u ∈ news, u.oneCell' = true) (hm : m ≤ 1000) :
    Calls Try.prog 99 #[.slice (some ad) m c] w fun r w' => CloneE w 3 1 m news r w' := by
  obtain ⟨i0, hi, hz0, hz1, hz2⟩ := info_parts info3
  have HI : Hid (Try.prog.info? 3 = some i0 ∧ i0.zero = some (.int .i64 0) ∧ i0.size = 1 ∧ i0.bytes = 8) := ⟨hi, hz0, hz1, hz2⟩
  obtain ⟨W, hW⟩ : ∃ W, w.alloc (.cells #[] 3) = W := ⟨_, rfl⟩
  have bW : Below w.heap.size w W := by rw [← hW]; exact more (Below.refl _ _) _
  have hbx : W.heap[w.heap.size]? = some (.cells #[] 3 (0, 0)) := by rw [← hW]; exact heap_alloc_new w _
  have HO : Hid (W.ownsRow w.heap.size 3 1 (.slice (some ⟨w.heap.size, 0, none⟩) 0 0) 0 []) := litE hbx (Nat.le_refl _)
  have HN : Hid (∀ j u, news[j]? = some u → W.cell? (ad.add j) = some u) := fun j u hu => by
    have h2 := hnews j u hu
    have hlt : (ad.add j).block < w.heap.size := World.block_lt_of_cell? w _ h2
    rw [World.cell?_of_block (bW.block _ hlt)]
    exact h2
  have H1 := hide h1
  have HL := hide hl
  have HM := hide hm
  have HS : Hid (w.heap.size ≤ W.heap.size) := bW.size
  have HF : Hid (∀ v w', w'.ownsRow w.heap.size 3 1 v (0 + m) ([] ++ news) → W.grownBy w' (some w.heap.size) → CloneE w 3 1 m news (.returned v) w') := fun v w' q1 q2 => by
    rw [Nat.zero_add, List.nil_append] at q1
    exact ⟨v, rfl, q1, bW.grown q2 bW.size (fun k hk => by simp only [Option.some.injEq] at hk; omega)⟩
  clear hi hz0 hz1 hz2 bW hbx hnews h1 hl
  have hq := some31 ad m c
  go_enter Try.func99, Try.ntmps99
  go_wp2_with (at_builtin; refine wpList_append_own _ rfl _ _ 31 rfl w.heap.size 3 i0 (.int .i64 0) 1 8 Try.underlying31 HI.out.1 HI.out.2.1 HI.out.2.2.1 HI.out.2.2.2 rfl (by decide) _ 0 [] rfl HO.out ad m c news rfl HL.out HN.out H1.out (by unfold maxLen; have := HM.out; omega) (by have := HM.out; omega) HS.out ?_; intro v w' q1 q2 _; have HC := hide (HF.out v w' q1 q2); clear q1 q2)
  go_ret
  exact HC.out
end Go.Proofs.Ytklkglbimjajnaa.clone
