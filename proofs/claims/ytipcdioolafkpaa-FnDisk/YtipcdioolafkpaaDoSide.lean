/- An act on a track, beside a row of numbers that stays as it is. -/
import Derived.Test.YtipcdioolafkpaaBeside
namespace Go.Proofs.Ytipcdioolafkpaa.doside
open Go.ChangeShapes Go.WideShapes Go.ChangeAt Go.RowKit
open Go.Proofs.Ytipcdioolafkpaa.bytes Go.Proofs.Ytipcdioolafkpaa.pile Go.Proofs.Ytipcdioolafkpaa.reader Go.Proofs.Ytipcdioolafkpaa.lists Go.Proofs.Ytipcdioolafkpaa.sizes Go.Proofs.Ytipcdioolafkpaa.marked Go.Proofs.Ytipcdioolafkpaa.disks Go.Proofs.Ytipcdioolafkpaa.diskmarks Go.Proofs.Ytipcdioolafkpaa.specdisk Go.Proofs.Ytipcdioolafkpaa.tracks Go.Proofs.Ytipcdioolafkpaa.trackof Go.Proofs.Ytipcdioolafkpaa.crashes Go.Proofs.Ytipcdioolafkpaa.crashed Go.Proofs.Ytipcdioolafkpaa.acts Go.Proofs.Ytipcdioolafkpaa.diskof Go.Proofs.Ytipcdioolafkpaa.beside
set_option linter.unusedVariables false

set_option maxHeartbeats 400000 in
theorem crash_side (w : World) (base d : Nat) (av : Value) (xs : List Int) (ev : Value) (cs : List (List Int)) (h : TS w base d av (xs ++ cs.flatten) xs.length ev (endsTo xs.length cs cs.length)) (K torn : Nat) (hr : Right xs cs) (hK : K ≤ 9223372036854775807) (ht : torn ≤ 9223372036854775807) (rb : Nat) (rv : Value) (rn : Nat) (rus : List Value) (hside : Side w ev rb rv rn rus) :
    Calls Try.prog 51 #[.pointer (some ⟨d, 0, none⟩), .int .i64 K, .int .i64 torn] w fun e w' => e = .returned (.int .i64 0) ∧ TS w' base d (.slice (some ⟨w.heap.size, 0, none⟩) (keptN xs.length cs K torn) (keptN xs.length cs K torn)) (crashF xs cs K torn) (keptN xs.length cs K torn : Nat) (.slice none 0 0) [] ∧ Below base w w' ∧ Side w' (.slice none 0 0) rb rv rn rus := by
  have HT : Hid (TS w base d av (xs ++ cs.flatten) xs.length ev (endsTo xs.length cs cs.length)) := h
  have HK := kept_any w base d av _ xs.length ev cs h K torn (by have := hr.2; omega) hK ht (by have := hr.1; omega)
  have HC := cut_side w base d av _ _ ev _ h (keptN xs.length cs K torn) (kept_le xs cs K torn) (by rw [List.length_append]; exact hr.2) rb rv rn rus hside
  rw [crash_take] at HC
  clear h hside
  generalize keptN xs.length cs K torn = M at HK HC ⊢
  have h1 : ¬ (K : Int) < 0 := by omega
  have h2 : ¬ (torn : Int) < 0 := by omega
  go_enter Try.func51, Try.ntmps51
  go_wp2_with fail
  refine HK.mono ?_
  rintro e w1 ⟨rfl, hw1⟩
  have hw1' := hw1.symm
  subst hw1'
  go_wp2_with fail
  refine HC.mono ?_
  rintro e w2 ⟨rfl, T2, b2, S2⟩
  have HF : Hid (TS w2 base d (.slice (some ⟨w.heap.size, 0, none⟩) M M) (crashF xs cs K torn) M (.slice none 0 0) [] ∧ Below base w w2 ∧ Side w2 (.slice none 0 0) rb rv rn rus) := ⟨T2, b2, S2⟩
  clear T2 b2 S2 HC HK
  go_wp2
  go_ret
  exact ⟨rfl, HF.out⟩

/-- A track that holds a disk, beside a row of numbers. -/
def TDS (w : World) (base d : Nat) (xs : List Int) (cs : List (List Int)) (rb : Nat) (rv : Value) (rn : Nat) (rus : List Value) : Prop := ∃ av ev, TS w base d av (xs ++ cs.flatten) xs.length ev (endsTo xs.length cs cs.length) ∧ Side w ev rb rv rn rus

set_option maxRecDepth 20000 in
set_option maxHeartbeats 2000000 in
theorem do_side (w : World) (base d : Nat) (xs : List Int) (cs : List (List Int)) (rb : Nat) (rv : Value) (rn : Nat) (rus : List Value) (h : TDS w base d xs cs rb rv rn rus) (a : Act4) (u : Value) (hu : RdA w u a.data) (hb : xs.length + cs.flatten.length ≤ 8192) (hc : cs.length ≤ 200) (hy : a.data.length ≤ 1099511627776) (hk : a.keep ≤ 9223372036854775807) (ht : a.torn ≤ 9223372036854775807) :
    Calls Try.prog 46 #[.pointer (some ⟨d, 0, none⟩), .agg #[.int .i64 a.kind, .int .i64 a.keep, .int .i64 a.torn, u]] w fun e w' => e = .returned (.int .i64 (stepD xs cs a).2.2) ∧ TDS w' base d (stepD xs cs a).1 (stepD xs cs a).2.1 rb rv rn rus ∧ Below base w w' := by
  obtain ⟨av, ev, hT, hside⟩ := h
  obtain ⟨kind, keep, torn, ys⟩ := a
  simp only at hu hy hk ht ⊢
  have HU : Hid (RdA w u ys) := hu
  obtain ⟨⟨uo, uc, rfl, hu1, hu2, _⟩, _⟩ := hu
  have hlow := hT.low
  have hd := hT.lt
  obtain ⟨W0, hW0⟩ : ∃ W0, W0 = w.alloc (.cells #[.int .i64 kind, .int .i64 keep, .int .i64 torn, .slice uo ys.length uc] 76) := ⟨_, rfl⟩
  have b0 : Below w.heap.size w W0 := by rw [hW0]; exact (Below.refl _ _).alloc (Nat.le_refl _) _
  have T0 := hT.below b0
  have S0 := hside.below b0
  have hlen : (xs ++ cs.flatten).length = xs.length + cs.flatten.length := List.length_append
  have hR : Right xs cs := ⟨hc, hb⟩
  have HB0 : Hid (∀ wx, Below base W0 wx → Below base w wx) := fun wx hb => (b0.mono (by omega)).trans hb
  clear hT hside
  by_cases h1 : kind = 1
  · subst h1
    by_cases hm : 8192 < xs.length + cs.flatten.length + ys.length
    · have HE : Hid (stepD xs cs ⟨1, keep, torn, ys⟩ = (xs, cs, 7)) := by unfold Hid stepD; rw [if_pos rfl, if_pos hm]
      have hC := write_many W0 _ _ _ _ _ _ _ _ ys T0 (HU.out.below b0 (Nat.le_refl _)) (by rw [hlen]; omega) (by rw [hlen]; exact hb) hy
      have HF : Hid (TDS W0 base d xs cs rb rv rn rus ∧ Below base w W0) := ⟨⟨_, _, T0, S0⟩, HB0.out _ (Below.refl _ _)⟩
      rw [hW0] at hC HF
      clear T0 S0 b0 hR hlen
      go_enter Try.func46, Try.ntmps46
      go_wp2_with fail
      refine hC.mono ?_
      rintro e w1 ⟨rfl, hw1⟩
      subst hw1
      go_wp2
      go_ret
      rw [HE.out]
      exact ⟨rfl, HF.out⟩
    · have HE : Hid (stepD xs cs ⟨1, keep, torn, ys⟩ = (xs, cs ++ [ys], 0)) := by unfold Hid stepD; rw [if_pos rfl, if_neg hm]
      have hC := write_side W0 _ _ _ _ _ _ _ _ ys T0 (HU.out.below b0 (Nat.le_refl _)) (by rw [hlen]; omega) (by rw [endsTo_length]; omega) rb rv rn rus S0
      rw [hW0] at hC
      clear T0 S0 b0 hR
      go_enter Try.func46, Try.ntmps46
      go_wp2_with fail
      refine hC.mono ?_
      rw [← hW0]
      rintro e w1 ⟨rfl, av1, ev1, T1, b1, S1⟩
      have HF : Hid (TDS w1 base d xs (cs ++ [ys]) rb rv rn rus ∧ Below base w w1) := by
        refine hide ⟨⟨av1, ev1, ?_, S1⟩, HB0.out _ b1⟩
        rw [endsTo_snoc, List.flatten_append, List.flatten_cons, List.flatten_nil, List.append_nil, ← List.append_assoc]
        rw [hlen] at T1
        exact T1
      clear T1 b1 S1 hC
      go_wp2
      go_ret
      rw [HE.out]
      exact ⟨rfl, HF.out⟩
  have q1 : (kind == 1) = false := beq_eq_false_iff_ne.2 h1
  by_cases h2 : kind = 2
  · subst h2
    have HE : Hid (stepD xs cs ⟨2, keep, torn, ys⟩ = (xs ++ cs.flatten, [], 0)) := by unfold Hid stepD; rw [if_neg h1, if_pos rfl]
    have hC := sync_side W0 _ _ _ _ _ _ _ T0 rb rv rn rus S0
    rw [hW0] at hC
    clear T0 S0 b0 hR
    go_enter Try.func46, Try.ntmps46
    go_wp2_with fail
    refine hC.mono ?_
    rw [← hW0]
    rintro e w1 ⟨rfl, T1, b1, S1⟩
    have HF : Hid (TDS w1 base d (xs ++ cs.flatten) [] rb rv rn rus ∧ Below base w w1) := hide ⟨⟨_, _, by simpa [endsTo] using T1, S1⟩, HB0.out _ b1⟩
    clear T1 b1 S1 hC
    go_wp2
    go_ret
    rw [HE.out]
    exact ⟨rfl, HF.out⟩
  have q2 : (kind == 2) = false := beq_eq_false_iff_ne.2 h2
  by_cases h3 : kind = 3
  · subst h3
    by_cases hn : keep < 0 ∨ torn < 0
    · have HE : Hid (stepD xs cs ⟨3, keep, torn, ys⟩ = (xs, cs, 5)) := by unfold Hid stepD; rw [if_neg h1, if_neg h2, if_pos rfl, if_pos hn]
      have hC := crash_bad W0 d keep torn hn
      have HF : Hid (TDS W0 base d xs cs rb rv rn rus ∧ Below base w W0) := ⟨⟨_, _, T0, S0⟩, HB0.out _ (Below.refl _ _)⟩
      rw [hW0] at hC HF
      clear T0 S0 b0 hR hlen hn
      go_enter Try.func46, Try.ntmps46
      go_wp2_with fail
      refine hC.mono ?_
      rintro e w1 ⟨rfl, hw1⟩
      subst hw1
      go_wp2
      go_ret
      rw [HE.out]
      exact ⟨rfl, HF.out⟩
    · obtain ⟨K, rfl⟩ := Int.eq_ofNat_of_zero_le (show 0 ≤ keep by omega)
      obtain ⟨R, rfl⟩ := Int.eq_ofNat_of_zero_le (show 0 ≤ torn by omega)
      have HE : Hid (stepD xs cs ⟨3, K, R, ys⟩ = (crashF xs cs K R, [], 0)) := by unfold Hid stepD; rw [if_neg h1, if_neg h2, if_pos rfl, if_neg hn]; rfl
      have hC := crash_side W0 _ _ _ xs _ cs T0 K R hR (by omega) (by omega) rb rv rn rus S0
      have hMF : keptN xs.length cs K R = (crashF xs cs K R).length := by
        rw [← crash_take, List.length_take]
        have := kept_le xs cs K R
        omega
      rw [hMF] at hC
      rw [hW0] at hC
      clear T0 S0 b0 hR hn hMF
      go_enter Try.func46, Try.ntmps46
      go_wp2_with fail
      refine hC.mono ?_
      rw [← hW0]
      rintro e w1 ⟨rfl, T1, b1, S1⟩
      have HF : Hid (TDS w1 base d (crashF xs cs K R) [] rb rv rn rus ∧ Below base w w1) := hide ⟨⟨_, _, by simpa [endsTo] using T1, S1⟩, HB0.out _ b1⟩
      clear T1 b1 S1 hC
      go_wp2
      go_ret
      rw [HE.out]
      exact ⟨rfl, HF.out⟩
  have q3 : (kind == 3) = false := beq_eq_false_iff_ne.2 h3
  by_cases h4 : kind = 4
  · subst h4
    by_cases hn : keep < 0 ∨ ((xs.length + cs.flatten.length : Nat) : Int) < keep
    · have HE : Hid (stepD xs cs ⟨4, keep, torn, ys⟩ = (xs, cs, 5)) := by unfold Hid stepD; rw [if_neg h1, if_neg h2, if_neg h3, if_pos rfl, if_pos hn]
      have hC := cut_bad W0 _ _ _ _ _ _ _ T0 keep (by rw [hlen]; exact hn)
      have HF : Hid (TDS W0 base d xs cs rb rv rn rus ∧ Below base w W0) := ⟨⟨_, _, T0, S0⟩, HB0.out _ (Below.refl _ _)⟩
      rw [hW0] at hC HF
      clear T0 S0 b0 hR hlen hn
      go_enter Try.func46, Try.ntmps46
      go_wp2_with fail
      refine hC.mono ?_
      rintro e w1 ⟨rfl, hw1⟩
      subst hw1
      go_wp2
      go_ret
      rw [HE.out]
      exact ⟨rfl, HF.out⟩
    · obtain ⟨K, rfl⟩ := Int.eq_ofNat_of_zero_le (show 0 ≤ keep by omega)
      have HE : Hid (stepD xs cs ⟨4, K, torn, ys⟩ = ((xs ++ cs.flatten).take K, [], 0)) := by unfold Hid stepD; rw [if_neg h1, if_neg h2, if_neg h3, if_pos rfl, if_neg hn]; rfl
      have hC := cut_side W0 _ _ _ _ _ _ _ T0 K (by rw [hlen]; omega) (by rw [hlen]; exact hb) rb rv rn rus S0
      have HMF : Hid (((xs ++ cs.flatten).take K).length = K) := by unfold Hid; rw [List.length_take, hlen]; omega
      rw [hW0] at hC
      clear T0 S0 b0 hR hn
      go_enter Try.func46, Try.ntmps46
      go_wp2_with fail
      refine hC.mono ?_
      rw [← hW0]
      rintro e w1 ⟨rfl, T1, b1, S1⟩
      have HF : Hid (TDS w1 base d ((xs ++ cs.flatten).take K) [] rb rv rn rus ∧ Below base w w1) := by
        refine hide ⟨⟨.slice (some ⟨W0.heap.size, 0, none⟩) K K, .slice none 0 0, ?_, S1⟩, HB0.out _ b1⟩
        rw [HMF.out]
        simpa [endsTo] using T1
      clear T1 b1 S1 hC HMF
      go_wp2
      go_ret
      rw [HE.out]
      exact ⟨rfl, HF.out⟩
  have q4 : (kind == 4) = false := beq_eq_false_iff_ne.2 h4
  have HE : Hid (stepD xs cs ⟨kind, keep, torn, ys⟩ = (xs, cs, 3)) := by unfold Hid stepD; rw [if_neg h1, if_neg h2, if_neg h3, if_neg h4]
  have HF : Hid (TDS W0 base d xs cs rb rv rn rus ∧ Below base w W0) := ⟨⟨_, _, T0, S0⟩, HB0.out _ (Below.refl _ _)⟩
  rw [hW0] at HF
  clear T0 S0 b0 hR hlen
  go_enter Try.func46, Try.ntmps46
  go_wp2
  go_ret
  rw [HE.out]
  exact ⟨rfl, HF.out⟩

/-- What acts do, one by one: their codes, the synced bytes, the writes behind them. -/
def runD : List Int → List (List Int) → List Act4 → List Int × List Int × List (List Int)
  | xs, cs, [] => ([], xs, cs)
  | xs, cs, a :: al => ((stepD xs cs a).2.2 :: (runD (stepD xs cs a).1 (stepD xs cs a).2.1 al).1, (runD (stepD xs cs a).1 (stepD xs cs a).2.1 al).2)
theorem runD_snoc : ∀ (al : List Act4) (xs : List Int) (cs : List (List Int)) (a : Act4), runD xs cs (al ++ [a]) = ((runD xs cs al).1 ++ [(stepD (runD xs cs al).2.1 (runD xs cs al).2.2 a).2.2], (stepD (runD xs cs al).2.1 (runD xs cs al).2.2 a).1, (stepD (runD xs cs al).2.1 (runD xs cs al).2.2 a).2.1)
  | [], xs, cs, a => rfl
  | b :: al, xs, cs, a => by
    have ih := runD_snoc al (stepD xs cs b).1 (stepD xs cs b).2.1 a
    simp only [List.cons_append, runD]
    rw [ih]
theorem runD_small : ∀ (al : List Act4) (xs : List Int) (cs : List (List Int)), xs.length + cs.flatten.length ≤ 8192 → (runD xs cs al).2.1.length + (runD xs cs al).2.2.flatten.length ≤ 8192 ∧ (runD xs cs al).2.2.length ≤ cs.length + al.length ∧ (runD xs cs al).1.length = al.length
  | [], xs, cs, h => ⟨h, by simp [runD], rfl⟩
  | a :: al, xs, cs, h => by
    have h1 := step_small a h
    have h2 := runD_small al _ _ h1.1
    simp only [runD, List.length_cons]
    omega
end Go.Proofs.Ytipcdioolafkpaa.doside
