/- Contracts of the functions that go over all whole frames. -/
import Derived.Test.YthdkphpjpinphafOne
import Derived.Deep.LoopGhost
namespace Go.Proofs.Ythdkphpjpinphaf.many
open Go.ChangeShapes Go.WideShapes Go.ChangeAt Go.RowKit
open Go.Proofs.Ythdkphpjpinphaf.bytes Go.Proofs.Ythdkphpjpinphaf.pile Go.Proofs.Ythdkphpjpinphaf.get Go.Proofs.Ythdkphpjpinphaf.dec Go.Proofs.Ythdkphpjpinphaf.take
open Go.Proofs.Ythdkphpjpinphaf.put Go.Proofs.Ythdkphpjpinphaf.crcs Go.Proofs.Ythdkphpjpinphaf.join Go.Proofs.Ythdkphpjpinphaf.frames Go.Proofs.Ythdkphpjpinphaf.reader Go.Proofs.Ythdkphpjpinphaf.one
set_option linter.unusedVariables false

/-- The whole frames from the beginning of bytes on: their payloads, how many bytes they have, the code of a fault behind them. -/
def allF : Nat → List Int → List (List Int) × Nat × Int
  | 0, _ => ([], 0, 0)
  | f + 1, l => if (frameAt l).1 = -1 then ((frameAt l).2.1 :: (allF f (l.drop (frameAt l).2.2)).1, (frameAt l).2.2 + (allF f (l.drop (frameAt l).2.2)).2.1, (allF f (l.drop (frameAt l).2.2)).2.2) else ([], 0, (frameAt l).1)
theorem allF_more {f : Nat} {l : List Int} (h : (frameAt l).1 = -1) : allF (f + 1) l = ((frameAt l).2.1 :: (allF f (l.drop (frameAt l).2.2)).1, (frameAt l).2.2 + (allF f (l.drop (frameAt l).2.2)).2.1, (allF f (l.drop (frameAt l).2.2)).2.2) := by rw [allF, if_pos h]
theorem allF_end {f : Nat} {l : List Int} (h : (frameAt l).1 ≠ -1) : allF (f + 1) l = ([], 0, (frameAt l).1) := by rw [allF, if_neg h]

theorem frameAt_size {l : List Int} (h : (frameAt l).1 = -1) : 0 < (frameAt l).2.2 ∧ (frameAt l).2.2 ≤ l.length := by
  unfold frameAt at h ⊢
  by_cases h1 : (getR 9 0 0 l).2.2 = 1
  · rw [if_pos h1] at h; simp at h
  · by_cases h2 : (getR 9 0 0 l).2.2 = 2
    · rw [if_neg h1, if_pos h2] at h; simp at h
    · by_cases h3 : 4096 < (getR 9 0 0 l).1
      · rw [if_neg h1, if_neg h2, if_pos h3] at h; simp at h
      · by_cases h4 : l.length < (getR 9 0 0 l).2.1 + ((getR 9 0 0 l).1.toNat + 4)
        · rw [if_neg h1, if_neg h2, if_neg h3, if_pos h4] at h; simp at h
        · rw [if_neg h1, if_neg h2, if_neg h3, if_neg h4] at h ⊢
          split at h
          · rename_i h5
            rw [if_pos h5]
            simp only
            omega
          · simp at h

/-- What allF says of the rest, said of the whole. -/
def Through (F : Nat) (l0 : List Int) (ps : List (List Int)) (k f : Nat) (l : List Int) : Prop := allF F l0 = (ps ++ (allF f l).1, k + (allF f l).2.1, (allF f l).2.2)

theorem Through.step {F : Nat} {l0 : List Int} {ps : List (List Int)} {k f : Nat} {l : List Int} (h : Through F l0 ps k (f + 1) l) (hw : (frameAt l).1 = -1) : Through F l0 (ps ++ [(frameAt l).2.1]) (k + (frameAt l).2.2) f (l.drop (frameAt l).2.2) := by
  unfold Through at h ⊢
  rw [h, allF_more hw]
  simp [Nat.add_assoc]
theorem Through.stop {F : Nat} {l0 : List Int} {ps : List (List Int)} {k f : Nat} {l : List Int} (h : Through F l0 ps k (f + 1) l) (hw : (frameAt l).1 ≠ -1) : allF F l0 = (ps, k, (frameAt l).1) := by
  unfold Through at h
  rw [h, allF_end hw]
  simp

set_option maxHeartbeats 1000000 in
theorem frames_any (w : World) (base d : Nat) (ao : Option Addr) (cap : Nat) (xs : List Int) (at0 : Nat) (pv : Value) (us : List Value) (xss : List (List Int)) (h : RS w base d ao cap xs at0 pv us xss)
    (hub : us.length + xs.length ≤ 4294967296) :
    Calls Try.prog 48 #[.pointer (some ⟨d, 0, none⟩)] w fun e w' => e = .returned (.int .i64 (allF (xs.length + 1) (xs.drop at0)).2.2) ∧
      ∃ pv' us', RS w' base d ao cap xs (at0 + (allF (xs.length + 1) (xs.drop at0)).2.1) pv' us' (xss ++ (allF (xs.length + 1) (xs.drop at0)).1) ∧ Below base w w' := by
  have HRS : Hid (RS w base d ao cap xs at0 pv us xss) := h
  have hle := h.le
  clear h
  go_enter Try.func48, Try.ntmps48
  go_wp2
  go_loopg [3] (xs.length - at0) (fun g s wr => ∃ (at_ : Nat) (pv' : Value) (us' : List Value) (ps : List (List Int)) (f : Nat), g = xs.length - at_ ∧ at0 ≤ at_ ∧ at_ ≤ xs.length ∧ Hid (RS wr base d ao cap xs at_ pv' us' (xss ++ ps) ∧ Below base w wr ∧ us'.length + (xs.length - at_) ≤ us.length + xs.length ∧ xs.length - at_ < f + 1 ∧ Through (xs.length + 1) (xs.drop at0) ps (at_ - at0) (f + 1) (xs.drop at_)))
  case atStart => exact ⟨at0, pv, us, [], xs.length, rfl, Nat.le_refl _, hle, hide ⟨by simpa using HRS.out, Below.refl _ _, by omega, by omega, by simp [Through]⟩⟩
  case round =>
    obtain ⟨at_, pv', us', ps, f, rfl, hat0, hatl, HR⟩ := hrel
    have hc1 := HR.out.1.c1
    have hf1 := HR.out.1.fz 1
    by_cases hw : (frameAt (xs.drop at_)).1 = -1
    · have HW : Hid ((frameAt (xs.drop at_)).1 = -1) := hw
      have hsz := frameAt_size hw
      rw [List.length_drop] at hsz
      clear hw
      have HC : Hid (Calls Try.prog 64 #[.pointer (some ⟨d, 0, none⟩)] wr fun e w' => e = .returned (.tuple #[.bool true, .int .i64 0]) ∧ ∃ pv2 v, RS w' base d ao cap xs (at_ + (frameAt (xs.drop at_)).2.2) pv2 (us' ++ [v]) ((xss ++ ps) ++ [(frameAt (xs.drop at_)).2.1]) ∧ Below base wr w') :=
        frame_some wr base d ao cap xs at_ pv' us' (xss ++ ps) HR.out.1 (by have := HR.out.2.2.1; omega) HW.out
      have HT : Hid (Through (xs.length + 1) (xs.drop at0) (ps ++ [(frameAt (xs.drop at_)).2.1]) (at_ - at0 + (frameAt (xs.drop at_)).2.2) f (xs.drop (at_ + (frameAt (xs.drop at_)).2.2))) := by
        have := HR.out.2.2.2.2.step HW.out
        rw [List.drop_drop] at this
        exact this
      generalize (frameAt (xs.drop at_)).2.2 = sz at HC HT hsz
      generalize (frameAt (xs.drop at_)).2.1 = p at HC HT
      go_wp2_with fail
      refine HC.out.mono ?_
      rintro e w1 ⟨rfl, pv2, v, hR2, hB2⟩
      have HR2 : Hid (RS w1 base d ao cap xs (at_ + sz) pv2 (us' ++ [v]) (xss ++ (ps ++ [p])) ∧ Below base w w1) := by
        rw [← List.append_assoc]
        exact hide ⟨hR2, HR.out.2.1.trans hB2⟩
      clear hR2 hB2 HC
      go_wp2
      go_roundg (xs.length - (at_ + sz))
      case measure => omega
      case rel =>
        have hff : f ≠ 0 := by have := HR.out.2.2.2.1; omega
        obtain ⟨f', rfl⟩ := Nat.exists_eq_succ_of_ne_zero hff
        refine ⟨at_ + sz, pv2, us' ++ [v], ps ++ [p], f', rfl, by omega, by omega, hide ⟨HR2.out.1, HR2.out.2, ?_, ?_, ?_⟩⟩
        · have := HR.out.2.2.1
          simp
          omega
        · have := HR.out.2.2.2.1
          omega
        · have := HT.out
          rw [show at_ - at0 + sz = at_ + sz - at0 by omega] at this
          exact this
    · have HW : Hid (allF (xs.length + 1) (xs.drop at0) = (ps, at_ - at0, (frameAt (xs.drop at_)).1)) := HR.out.2.2.2.2.stop hw
      have HC : Hid (Calls Try.prog 64 #[.pointer (some ⟨d, 0, none⟩)] wr fun e w' => e = .returned (.tuple #[.bool false, .int .i64 (frameAt (xs.drop at_)).1]) ∧ Same wr w' base d ao cap xs pv' us' (xss ++ ps)) :=
        frame_none wr base d ao cap xs at_ pv' us' (xss ++ ps) HR.out.1 hw
      clear hw
      generalize (frameAt (xs.drop at_)).1 = c at HC HW
      go_wp2_with fail
      refine HC.out.mono ?_
      rintro e w1 ⟨rfl, ⟨a1, R1⟩, B1⟩
      have hc11 := R1.c1
      have hf11 := R1.fz 1
      have HFin : Hid (RS (w1.setCell ⟨d, 1, none⟩ (.int .i64 at_)) base d ao cap xs at_ pv' us' (xss ++ ps) ∧ Below base w (w1.setCell ⟨d, 1, none⟩ (.int .i64 at_))) :=
        hide ⟨R1.setAt at_ hatl, (HR.out.2.1.trans B1).setCell R1.low _⟩
      clear R1 B1 HC
      go_wp2
      go_ret
      rw [HW.out]
      refine ⟨rfl, pv', us', ?_, HFin.out.2⟩
      have := HFin.out.1
      rw [show at0 + (at_ - at0) = at_ by omega]
      exact this

/-- What Unframe answers. -/
def unfA (xs : List Int) : List (List Int) × Nat × Int :=
  if 65536 < xs.length then ([], 0, 2) else
    if (allF (xs.length + 1) xs).2.2 = 0 then allF (xs.length + 1) xs else ([], (allF (xs.length + 1) xs).2.1, (allF (xs.length + 1) xs).2.2)

set_option maxHeartbeats 1000000 in
theorem implUnframe (w : World) (b : Value) (xs : List Int) (hb : RdA w b xs) :
    Calls Try.prog 18 #[b] w fun e w' => ∃ v us, e = .returned (.tuple #[v, .int .i64 ((unfA xs).2.1 : Int), .int .i64 (unfA xs).2.2]) ∧ w'.ownsRow w.heap.size 22 1 v us.length us ∧ Pile w' w.heap.size us (unfA xs).1 ∧ Below w.heap.size w w' := by
  have HB : Hid (RdA w b xs) := hb
  obtain ⟨⟨ao, cap, rfl, ha1, ha2, hx, h4⟩, hnil⟩ := hb
  unfold maxLen at ha2
  have HX : Hid (0 < xs.length → ∃ b off, ao = some ⟨b, off, none⟩ ∧ ∀ i, i < xs.length → w.cell? ⟨b, off + i, none⟩ = some (.int .u8 (xs.getD i 0))) := h4
  clear h4 hx hnil
  by_cases hl : 65536 < xs.length
  · have hu : unfA xs = ([], 0, 2) := by rw [unfA, if_pos hl]
    rw [hu]
    have hl' : (65536 : Int) < xs.length := by omega
    go_enter Try.func18, Try.ntmps18
    go_wp2
    go_ret3
    exact ⟨_, [], rfl, World.ownsRow_nil _ _ _ _, Pile.nil _ _, Below.refl _ _⟩
  · have hl' : ¬ (65536 : Int) < xs.length := by omega
    have hu : unfA xs = if (allF (xs.length + 1) xs).2.2 = 0 then allF (xs.length + 1) xs else ([], (allF (xs.length + 1) xs).2.1, (allF (xs.length + 1) xs).2.2) := by rw [unfA, if_neg hl]
    rw [hu]
    clear hu
    have hba : Below w.heap.size w (w.alloc (.cells #[.slice ao xs.length cap, .int .i64 0, .slice none 0 0] 67)) := (Below.refl _ _).alloc (Nat.le_refl _) _
    have HR0 : Hid (RS (w.alloc (.cells #[.slice ao xs.length cap, .int .i64 0, .slice none 0 0] 67)) w.heap.size w.heap.size ao cap xs 0 (.slice none 0 0) [] []) := by
      refine hide ⟨by exact heap_alloc_new w _, HB.out.below hba (Nat.le_refl _), fun hp x hx => ?_, World.ownsRow_nil _ _ _ _, Pile.nil _ _, by omega, by omega, Nat.le_refl _⟩
      obtain ⟨b, off, e, hc⟩ := HX.out hp
      rw [e] at hx
      simp only [Option.some.injEq] at hx
      subst hx
      have := cell_lt (hc 0 hp)
      refine ⟨by simp only at this ⊢; omega, by simp [Value.ownBlock]⟩
    have HC : Hid (Calls Try.prog 48 #[.pointer (some ⟨w.heap.size, 0, none⟩)] (w.alloc (.cells #[.slice ao xs.length cap, .int .i64 0, .slice none 0 0] 67)) fun e w' => e = .returned (.int .i64 (allF (xs.length + 1) xs).2.2) ∧
      ∃ pv' us', RS w' w.heap.size w.heap.size ao cap xs (allF (xs.length + 1) xs).2.1 pv' us' (allF (xs.length + 1) xs).1 ∧ Below w.heap.size w w') := by
      have := frames_any _ w.heap.size w.heap.size ao cap xs 0 (.slice none 0 0) [] [] HR0.out (by simp; omega)
      refine this.mono ?_
      rintro e w' ⟨rfl, pv', us', h1, h2⟩
      simp only [List.drop_zero, Nat.zero_add, List.nil_append] at h1 ⊢
      exact ⟨trivial, pv', us', h1, hba.trans h2⟩
    clear HR0 HX HB hba
    generalize allF (xs.length + 1) xs = r at HC ⊢
    obtain ⟨ps, k, c⟩ := r
    simp only at HC ⊢
    rcases Bool.eq_false_or_eq_true (c != 0) with hc | hc
    · rw [if_neg (by simpa using hc)]
      go_enter Try.func18, Try.ntmps18
      go_wp2_with fail
      refine HC.out.mono ?_
      rintro e w1 ⟨rfl, pv', us', R1, B1⟩
      have hc1 := R1.c1
      have hc2 := R1.c2
      have HF : Hid (Below w.heap.size w w1) := B1
      clear R1 B1 HC
      go_wp2
      go_quiet (fail)
      go_wp2
      go_ret3
      exact ⟨_, [], rfl, World.ownsRow_nil _ _ _ _, Pile.nil _ _, below_drewN HF.out _⟩
    · have hc0 : c = 0 := by simpa using hc
      subst hc0
      rw [if_pos rfl]
      go_enter Try.func18, Try.ntmps18
      go_wp2_with fail
      refine HC.out.mono ?_
      rintro e w1 ⟨rfl, pv', us', R1, B1⟩
      have hc1 := R1.c1
      have hc2 := R1.c2
      have HF : Hid (w1.ownsRow w.heap.size 22 1 pv' us'.length us' ∧ Pile w1 w.heap.size us' ps ∧ Below w.heap.size w w1) := ⟨R1.pay, R1.each, B1⟩
      clear R1 B1 HC
      go_wp2
      go_quiet (fail)
      go_wp2
      go_ret3
      exact ⟨_, us', rfl, HF.out.1, HF.out.2.1.below (below_same w1 _) (Nat.le_refl _), below_drewN HF.out.2.2 _⟩
end Go.Proofs.Ythdkphpjpinphaf.many
