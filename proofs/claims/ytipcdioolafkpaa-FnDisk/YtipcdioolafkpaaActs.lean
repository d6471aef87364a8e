/- What an act does to a disk, and the contract of the program's act on a track. -/
import Derived.Test.YtipcdioolafkpaaCrashed
namespace Go.Proofs.Ytipcdioolafkpaa.acts
open Go.ChangeShapes Go.WideShapes Go.ChangeAt Go.RowKit
open Go.Proofs.Ytipcdioolafkpaa.bytes Go.Proofs.Ytipcdioolafkpaa.pile Go.Proofs.Ytipcdioolafkpaa.reader Go.Proofs.Ytipcdioolafkpaa.lists Go.Proofs.Ytipcdioolafkpaa.sizes Go.Proofs.Ytipcdioolafkpaa.marked Go.Proofs.Ytipcdioolafkpaa.disks Go.Proofs.Ytipcdioolafkpaa.diskmarks Go.Proofs.Ytipcdioolafkpaa.specdisk Go.Proofs.Ytipcdioolafkpaa.tracks Go.Proofs.Ytipcdioolafkpaa.trackof Go.Proofs.Ytipcdioolafkpaa.crashes Go.Proofs.Ytipcdioolafkpaa.crashed
set_option linter.unusedVariables false

/-- An act of a disk. -/
structure Act4 where
  kind : Int
  keep : Int
  torn : Int
  data : List Int

/-- What an act does: the synced bytes, the writes behind them, a code. -/
def stepD (xs : List Int) (cs : List (List Int)) (a : Act4) : List Int × List (List Int) × Int :=
  if a.kind = 1 then (if 8192 < xs.length + cs.flatten.length + a.data.length then (xs, cs, 7) else (xs, cs ++ [a.data], 0))
  else if a.kind = 2 then (xs ++ cs.flatten, [], 0)
  else if a.kind = 3 then (if a.keep < 0 ∨ a.torn < 0 then (xs, cs, 5) else (crashF xs cs a.keep.toNat a.torn.toNat, [], 0))
  else if a.kind = 4 then (if a.keep < 0 ∨ ((xs.length + cs.flatten.length : Nat) : Int) < a.keep then (xs, cs, 5) else ((xs ++ cs.flatten).take a.keep.toNat, [], 0))
  else (xs, cs, 3)

/-- It stays within its bounds, with a write more at most. -/
theorem step_small {xs : List Int} {cs : List (List Int)} (a : Act4) (h : xs.length + cs.flatten.length ≤ 8192) : (stepD xs cs a).1.length + (stepD xs cs a).2.1.flatten.length ≤ 8192 ∧ (stepD xs cs a).2.1.length ≤ cs.length + 1 := by
  unfold stepD
  split
  · split
    · exact ⟨h, Nat.le_succ _⟩
    · rename_i h1
      refine ⟨?_, by simp⟩
      simp only [List.flatten_append, List.flatten_cons, List.flatten_nil, List.append_nil, List.length_append]
      omega
  · split
    · simp only [List.length_append, List.flatten_nil, List.length_nil]; omega
    · split
      · split
        · exact ⟨h, Nat.le_succ _⟩
        · refine ⟨?_, by simp⟩
          rw [← crash_take]
          simp only [List.length_take, List.length_append, List.flatten_nil, List.length_nil]
          omega
      · split
        · split
          · exact ⟨h, Nat.le_succ _⟩
          · refine ⟨?_, by simp⟩
            simp only [List.length_take, List.length_append, List.flatten_nil, List.length_nil]
            omega
        · exact ⟨h, Nat.le_succ _⟩

/-- A track that holds a disk. -/
def TD (w : World) (base d : Nat) (xs : List Int) (cs : List (List Int)) : Prop := ∃ av ev, TS w base d av (xs ++ cs.flatten) xs.length ev (endsTo xs.length cs cs.length)

theorem endsTo_snoc (n : Nat) (cs : List (List Int)) (c : List Int) : endsTo n (cs ++ [c]) (cs ++ [c]).length = endsTo n cs cs.length ++ [((n + cs.flatten.length + c.length : Nat) : Int)] := by
  have e1 : ∀ k, k ≤ cs.length → endsTo n (cs ++ [c]) k = endsTo n cs k := fun k hk => by
    unfold endsTo
    apply List.map_congr_left
    intro i hi
    have hi' := List.mem_range.1 hi
    unfold sizeTo
    rw [List.take_append_of_le_length (by omega)]
  have e2 : (cs ++ [c]).length = cs.length + 1 := by simp
  rw [e2, endsTo_succ, e1 _ (Nat.le_refl _)]
  congr 2
  unfold sizeTo
  rw [List.take_of_length_le (by simp)]
  simp
  omega
theorem endsTo_nil (n : Nat) : endsTo n [] 0 = [] := rfl

set_option maxHeartbeats 400000 in
theorem cut_bad (w : World) (base d : Nat) (av : Value) (xs : List Int) (sy : Int) (ev : Value) (es : List Int) (h : TS w base d av xs sy ev es) (m : Int) (hm : m < 0 ∨ (xs.length : Int) < m) :
    Calls Try.prog 66 #[.pointer (some ⟨d, 0, none⟩), .int .i64 m] w fun e w' => e = .returned (.int .i64 5) ∧ w' = w := by
  obtain ⟨ao, ca, rfl, ha1, ha2, _⟩ := h.all.rd
  have c0 := cell_of h.blk (i := 0) rfl
  clear h
  by_cases h1 : m < 0
  · go_enter Try.func66, Try.ntmps66
    go_wp2
    go_ret
    exact ⟨rfl, rfl⟩
  · have h2 : (xs.length : Int) < m := by omega
    go_enter Try.func66, Try.ntmps66
    go_wp2
    go_ret
    exact ⟨rfl, rfl⟩

set_option maxRecDepth 20000 in
set_option maxHeartbeats 2000000 in
theorem do_any (w : World) (base d : Nat) (xs : List Int) (cs : List (List Int)) (h : TD w base d xs cs) (a : Act4) (u : Value) (hu : RdA w u a.data) (hb : xs.length + cs.flatten.length ≤ 8192) (hc : cs.length ≤ 200) (hy : a.data.length ≤ 1099511627776) (hk : a.keep ≤ 9223372036854775807) (ht : a.torn ≤ 9223372036854775807) :
    Calls Try.prog 46 #[.pointer (some ⟨d, 0, none⟩), .agg #[.int .i64 a.kind, .int .i64 a.keep, .int .i64 a.torn, u]] w fun e w' => e = .returned (.int .i64 (stepD xs cs a).2.2) ∧ TD w' base d (stepD xs cs a).1 (stepD xs cs a).2.1 ∧ Below base w w' := by
  obtain ⟨av, ev, hT⟩ := h
  obtain ⟨kind, keep, torn, ys⟩ := a
  simp only at hu hy hk ht ⊢
  have HU : Hid (RdA w u ys) := hu
  obtain ⟨⟨uo, uc, rfl, hu1, hu2, _⟩, _⟩ := hu
  have hlow := hT.low
  have hd := hT.lt
  obtain ⟨W0, hW0⟩ : ∃ W0, W0 = w.alloc (.cells #[.int .i64 kind, .int .i64 keep, .int .i64 torn, .slice uo ys.length uc] 76) := ⟨_, rfl⟩
  have b0 : Below w.heap.size w W0 := by rw [hW0]; exact (Below.refl _ _).alloc (Nat.le_refl _) _
  have T0 := hT.below b0
  have hlen : (xs ++ cs.flatten).length = xs.length + cs.flatten.length := List.length_append
  have hR : Right xs cs := ⟨hc, hb⟩
  have HB0 : Hid (∀ wx, Below base W0 wx → Below base w wx) := fun wx hb => (b0.mono (by omega)).trans hb
  clear hT
  by_cases h1 : kind = 1
  · subst h1
    by_cases hm : 8192 < xs.length + cs.flatten.length + ys.length
    · have HE : Hid (stepD xs cs ⟨1, keep, torn, ys⟩ = (xs, cs, 7)) := by unfold Hid stepD; rw [if_pos rfl, if_pos hm]
      have hC := write_many W0 _ _ _ _ _ _ _ _ ys T0 (HU.out.below b0 (Nat.le_refl _)) (by rw [hlen]; omega) (by rw [hlen]; exact hb) hy
      have HF : Hid (TD W0 base d xs cs ∧ Below base w W0) := ⟨⟨_, _, T0⟩, HB0.out _ (Below.refl _ _)⟩
      rw [hW0] at hC HF
      clear T0 b0 hR hlen
      go_enter Try.func46, Try.ntmps46
      go_wp2_with fail
      refine hC.mono ?_
      rintro e w1 ⟨rfl, hw1⟩
      subst hw1
      go_wp2
      go_ret
      rw [HE.out]
      exact ⟨rfl, HF.out⟩
    · have HE : Hid (stepD xs cs ⟨1, keep, torn, ys⟩ = (xs, cs ++ [ys], 0)) := by unfold Hid stepD; rw [if_pos rfl, if_neg hm]
      have hC := write_ok W0 _ _ _ _ _ _ _ _ ys T0 (HU.out.below b0 (Nat.le_refl _)) (by rw [hlen]; omega) (by rw [endsTo_length]; omega)
      rw [hW0] at hC
      clear T0 b0 hR
      go_enter Try.func46, Try.ntmps46
      go_wp2_with fail
      refine hC.mono ?_
      rw [← hW0]
      rintro e w1 ⟨rfl, av1, ev1, T1, b1⟩
      have HF : Hid (TD w1 base d xs (cs ++ [ys]) ∧ Below base w w1) := by
        refine hide ⟨⟨av1, ev1, ?_⟩, HB0.out _ b1⟩
        rw [endsTo_snoc, List.flatten_append, List.flatten_cons, List.flatten_nil, List.append_nil, ← List.append_assoc]
        rw [hlen] at T1
        exact T1
      clear T1 b1 hC
      go_wp2
      go_ret
      rw [HE.out]
      exact ⟨rfl, HF.out⟩
  have q1 : (kind == 1) = false := beq_eq_false_iff_ne.2 h1
  by_cases h2 : kind = 2
  · subst h2
    have HE : Hid (stepD xs cs ⟨2, keep, torn, ys⟩ = (xs ++ cs.flatten, [], 0)) := by unfold Hid stepD; rw [if_neg h1, if_pos rfl]
    have hC := sync_any W0 _ _ _ _ _ _ _ T0
    rw [hW0] at hC
    clear T0 b0 hR
    go_enter Try.func46, Try.ntmps46
    go_wp2_with fail
    refine hC.mono ?_
    rw [← hW0]
    rintro e w1 ⟨rfl, T1, b1⟩
    have HF : Hid (TD w1 base d (xs ++ cs.flatten) [] ∧ Below base w w1) := hide ⟨⟨_, _, by simpa [endsTo] using T1⟩, HB0.out _ b1⟩
    clear T1 b1 hC
    go_wp2
    go_ret
    rw [HE.out]
    exact ⟨rfl, HF.out⟩
  have q2 : (kind == 2) = false := beq_eq_false_iff_ne.2 h2
  by_cases h3 : kind = 3
  · subst h3
    by_cases hn : keep < 0 ∨ torn < 0
    · have HE : Hid (stepD xs cs ⟨3, keep, torn, ys⟩ = (xs, cs, 5)) := by unfold Hid stepD; rw [if_neg h1, if_neg h2, if_pos rfl, if_pos hn]
      have hC := crash_bad W0 d keep torn hn
      have HF : Hid (TD W0 base d xs cs ∧ Below base w W0) := ⟨⟨_, _, T0⟩, HB0.out _ (Below.refl _ _)⟩
      rw [hW0] at hC HF
      clear T0 b0 hR hlen hn
      go_enter Try.func46, Try.ntmps46
      go_wp2_with fail
      refine hC.mono ?_
      rintro e w1 ⟨rfl, hw1⟩
      subst hw1
      go_wp2
      go_ret
      rw [HE.out]
      exact ⟨rfl, HF.out⟩
    · obtain ⟨K, rfl⟩ := Int.eq_ofNat_of_zero_le (show 0 ≤ keep by omega)
      obtain ⟨R, rfl⟩ := Int.eq_ofNat_of_zero_le (show 0 ≤ torn by omega)
      have HE : Hid (stepD xs cs ⟨3, K, R, ys⟩ = (crashF xs cs K R, [], 0)) := by unfold Hid stepD; rw [if_neg h1, if_neg h2, if_pos rfl, if_neg hn]; rfl
      have hC := crash_ok W0 _ _ _ xs _ cs T0 K R hR (by omega) (by omega)
      have hMF : keptN xs.length cs K R = (crashF xs cs K R).length := by
        rw [← crash_take, List.length_take]
        have := kept_le xs cs K R
        omega
      rw [hMF] at hC
      rw [hW0] at hC
      clear T0 b0 hR hn hMF
      go_enter Try.func46, Try.ntmps46
      go_wp2_with fail
      refine hC.mono ?_
      rw [← hW0]
      rintro e w1 ⟨rfl, T1, b1⟩
      have HF : Hid (TD w1 base d (crashF xs cs K R) [] ∧ Below base w w1) := hide ⟨⟨_, _, by simpa [endsTo] using T1⟩, HB0.out _ b1⟩
      clear T1 b1 hC
      go_wp2
      go_ret
      rw [HE.out]
      exact ⟨rfl, HF.out⟩
  have q3 : (kind == 3) = false := beq_eq_false_iff_ne.2 h3
  by_cases h4 : kind = 4
  · subst h4
    by_cases hn : keep < 0 ∨ ((xs.length + cs.flatten.length : Nat) : Int) < keep
    · have HE : Hid (stepD xs cs ⟨4, keep, torn, ys⟩ = (xs, cs, 5)) := by unfold Hid stepD; rw [if_neg h1, if_neg h2, if_neg h3, if_pos rfl, if_pos hn]
      have hC := cut_bad W0 _ _ _ _ _ _ _ T0 keep (by rw [hlen]; exact hn)
      have HF : Hid (TD W0 base d xs cs ∧ Below base w W0) := ⟨⟨_, _, T0⟩, HB0.out _ (Below.refl _ _)⟩
      rw [hW0] at hC HF
      clear T0 b0 hR hlen hn
      go_enter Try.func46, Try.ntmps46
      go_wp2_with fail
      refine hC.mono ?_
      rintro e w1 ⟨rfl, hw1⟩
      subst hw1
      go_wp2
      go_ret
      rw [HE.out]
      exact ⟨rfl, HF.out⟩
    · obtain ⟨K, rfl⟩ := Int.eq_ofNat_of_zero_le (show 0 ≤ keep by omega)
      have HE : Hid (stepD xs cs ⟨4, K, torn, ys⟩ = ((xs ++ cs.flatten).take K, [], 0)) := by unfold Hid stepD; rw [if_neg h1, if_neg h2, if_neg h3, if_pos rfl, if_neg hn]; rfl
      have hC := cut_ok W0 _ _ _ _ _ _ _ T0 K (by rw [hlen]; omega) (by rw [hlen]; exact hb)
      have HMF : Hid (((xs ++ cs.flatten).take K).length = K) := by unfold Hid; rw [List.length_take, hlen]; omega
      rw [hW0] at hC
      clear T0 b0 hR hn
      go_enter Try.func46, Try.ntmps46
      go_wp2_with fail
      refine hC.mono ?_
      rw [← hW0]
      rintro e w1 ⟨rfl, T1, b1⟩
      have HF : Hid (TD w1 base d ((xs ++ cs.flatten).take K) [] ∧ Below base w w1) := by
        refine hide ⟨⟨.slice (some ⟨W0.heap.size, 0, none⟩) K K, .slice none 0 0, ?_⟩, HB0.out _ b1⟩
        rw [HMF.out]
        simpa [endsTo] using T1
      clear T1 b1 hC HMF
      go_wp2
      go_ret
      rw [HE.out]
      exact ⟨rfl, HF.out⟩
  have q4 : (kind == 4) = false := beq_eq_false_iff_ne.2 h4
  have HE : Hid (stepD xs cs ⟨kind, keep, torn, ys⟩ = (xs, cs, 3)) := by unfold Hid stepD; rw [if_neg h1, if_neg h2, if_neg h3, if_neg h4]
  have HF : Hid (TD W0 base d xs cs ∧ Below base w W0) := ⟨⟨_, _, T0⟩, HB0.out _ (Below.refl _ _)⟩
  rw [hW0] at HF
  clear T0 b0 hR hlen
  go_enter Try.func46, Try.ntmps46
  go_wp2
  go_ret
  rw [HE.out]
  exact ⟨rfl, HF.out⟩
end Go.Proofs.Ytipcdioolafkpaa.acts
