/- Contracts of the functions that go over all whole frames. -/
import Derived.Test.YtipcdioolafkpaaOne
import Derived.Deep.RegionLaw
import Derived.Deep.AppendLies
import Derived.Deep.LoopGhost
namespace Go.Proofs.Ytipcdioolafkpaa.many
open Go.ChangeShapes Go.WideShapes Go.ChangeAt Go.RowKit
open Go.Proofs.Ytipcdioolafkpaa.bytes Go.Proofs.Ytipcdioolafkpaa.pile Go.Proofs.Ytipcdioolafkpaa.get Go.Proofs.Ytipcdioolafkpaa.dec Go.Proofs.Ytipcdioolafkpaa.take
open Go.Proofs.Ytipcdioolafkpaa.put Go.Proofs.Ytipcdioolafkpaa.crcs Go.Proofs.Ytipcdioolafkpaa.join Go.Proofs.Ytipcdioolafkpaa.frames Go.Proofs.Ytipcdioolafkpaa.reader Go.Proofs.Ytipcdioolafkpaa.one
set_option linter.unusedVariables false

/-- The whole frames from the beginning of bytes on: their payloads, how many bytes they have, the code of a fault behind them. -/
def allF : Nat → List Int → List (List Int) × Nat × Int
  | 0, _ => ([], 0, 0)
  | f + 1, l => if (frameAt l).1 = -1 then ((frameAt l).2.1 :: (allF f (l.drop (frameAt l).2.2)).1, (frameAt l).2.2 + (allF f (l.drop (frameAt l).2.2)).2.1, (allF f (l.drop (frameAt l).2.2)).2.2) else ([], 0, (frameAt l).1)
theorem allF_more {f : Nat} {l : List Int} (h : (frameAt l).1 = -1) : allF (f + 1) l = ((frameAt l).2.1 :: (allF f (l.drop (frameAt l).2.2)).1, (frameAt l).2.2 + (allF f (l.drop (frameAt l).2.2)).2.1, (allF f (l.drop (frameAt l).2.2)).2.2) := by rw [allF, if_pos h]
theorem allF_end {f : Nat} {l : List Int} (h : (frameAt l).1 ≠ -1) : allF (f + 1) l = ([], 0, (frameAt l).1) := by rw [allF, if_neg h]

theorem frameAt_size {l : List Int} (h : (frameAt l).1 = -1) : 0 < (frameAt l).2.2 ∧ (frameAt l).2.2 ≤ l.length := by
  unfold frameAt at h ⊢
  by_cases h1 : (getR 9 0 0 l).2.2 = 1
  · rw [if_pos h1] at h; simp at h
  · by_cases h2 : (getR 9 0 0 l).2.2 = 2
    · rw [if_neg h1, if_pos h2] at h; simp at h
    · by_cases h3 : 4096 < (getR 9 0 0 l).1
      · rw [if_neg h1, if_neg h2, if_pos h3] at h; simp at h
      · by_cases h4 : l.length < (getR 9 0 0 l).2.1 + ((getR 9 0 0 l).1.toNat + 4)
        · rw [if_neg h1, if_neg h2, if_neg h3, if_pos h4] at h; simp at h
        · rw [if_neg h1, if_neg h2, if_neg h3, if_neg h4] at h ⊢
          split at h
          · rename_i h5
            rw [if_pos h5]
            simp only
            omega
          · simp at h

theorem join_one (wx : World) (B : Nat) (o : Option Addr) (n c : Nat) (ys : List Int) (hB : wx.heap[B]? = some (.cells #[.slice o n c] 22 (0, 0))) (hr : RdA wx (.slice o n c) ys) (hl : ys.length ≤ 65536) :
    Calls Try.prog 40 #[.slice (some ⟨B, 0, none⟩) 1 1] wx fun e w' => ∃ v, e = .returned v ∧ Own w' wx.heap.size v ys ∧ Below wx.heap.size wx w' := by
  have h := join_own wx (.slice (some ⟨B, 0, none⟩) 1 1) [.slice o n c] [ys] ⟨_, _, rfl, Nat.le_refl _, by simp [maxLen], fun _ => ⟨B, 0, rfl, fun i hi => by
      have : i = 0 := by simp at hi; omega
      subst this
      simp [World.cell?, hB]⟩⟩ ⟨rfl, fun i hi => by
      have : i = 0 := by simp at hi; omega
      subst this
      exact hr⟩ (by simp; omega)
  simpa using h

theorem row_ne {w : World} {base : Nat} {v : Value} {xs : List Int} {pv : Value} {n : Nat} {us : List Value} {pb : Nat} (h : Own w base v xs) (hp : w.ownsRow pb 22 1 pv n us) : v.ownBlock = none ∨ v.ownBlock ≠ pv.ownBlock := by
  cases hv : v.ownBlock with
  | none => exact .inl rfl
  | some k =>
    refine .inr fun e => ?_
    obtain ⟨c1, h1⟩ := own_typed h.2 hv
    obtain ⟨c2, h2⟩ := own_typed hp e.symm
    rw [h1] at h2
    simp at h2

theorem rd_grown {w w' : World} {row : Option Nat} {ao : Option Addr} {n cap : Nat} {xs : List Int} (h : RdA w (.slice ao n cap) xs) (hg : w.grownBy w' row) (hne : 0 < xs.length → ∀ x, ao = some x → row ≠ some x.block) : RdA w' (.slice ao n cap) xs := by
  obtain ⟨⟨ao', cap', e, h1, h2, h3, h4⟩, hnil⟩ := h
  simp only [Value.slice.injEq] at e
  obtain ⟨rfl, rfl, rfl⟩ := e
  refine ⟨⟨ao, cap, rfl, h1, h2, h3, fun hp => ?_⟩, hnil⟩
  obtain ⟨b, off, rfl, hc⟩ := h4 hp
  refine ⟨b, off, rfl, fun i hi => ?_⟩
  have hlt := cell_lt (hc i hi)
  rw [World.cell?_of_block (hg.block b hlt (fun e => hne hp _ rfl e.symm))]
  exact hc i hi

/-- One payload more. -/
theorem pushed {w7 w9 : World} {base d : Nat} {ao : Option Addr} {cap : Nat} {xs : List Int} {at_ : Nat} {pv : Value} {us : List Value} {xss : List (List Int)} {v : Value} {P : List Int} {K g cap9 : Nat} {o : Obj}
    (R : RS w7 base d ao cap xs at_ pv us xss) (HO : Own w7 K v P) (hK : base ≤ K) (hus : ∀ i, i < us.length → ∀ k, (us.getD i (.slice none 0 0)).ownBlock = some k → k < K)
    (hown : w9.ownsRow base 22 1 (.slice (some ⟨g, 0, none⟩) (us.length + 1) cap9) (us.length + 1) (us ++ [v])) (hgrow : (w7.alloc o).grownBy w9 pv.ownBlock) (hat : pv.ownBlock = some g ∨ g = w7.heap.size + 1) :
    RS (w9.setCell ⟨d, 2, none⟩ (.slice (some ⟨g, 0, none⟩) (us.length + 1) cap9)) base d ao cap xs at_ (.slice (some ⟨g, 0, none⟩) (us.length + 1) cap9) (us ++ [v]) (xss ++ [P]) ∧
      Below base w7 (w9.setCell ⟨d, 2, none⟩ (.slice (some ⟨g, 0, none⟩) (us.length + 1) cap9)) := by
  have hg : w7.grownBy w9 pv.ownBlock := grown_trans (World.grownBy_alloc w7 o pv.ownBlock) hgrow
  have hdp : pv.ownBlock ≠ some d := own_other R.pay R.blk (by decide)
  have hblk : w9.heap[d]? = some (.cells #[.slice ao xs.length cap, .int .i64 at_, pv] 68 (0, 0)) := (hg.block d R.lt (fun e => hdp e.symm)).trans R.blk
  have hpile : Pile w9 base us xss := ⟨R.each.1, fun i hi => own_kept (R.each.2.1 i hi) hg (row_ne (R.each.2.1 i hi) R.pay), R.each.2.2⟩
  have hv : Own w9 base v P := (own_kept HO hg (row_ne HO R.pay)).mono hK
  have hpile' : Pile w9 base (us ++ [v]) (xss ++ [P]) := pile_snoc hpile hv (fun i hi k hk hvk => by
    have h1 := hus i hi k hk
    have h2 := (HO.lt k hvk).1
    omega)
  have hdata : RdA w9 (.slice ao xs.length cap) xs := rd_grown R.data hg (fun hp x hx => (R.far hp x hx).2)
  have hfar : 0 < xs.length → ∀ x, ao = some x → x.block ≠ d ∧ (Value.slice (some ⟨g, 0, none⟩) (us.length + 1) cap9).ownBlock ≠ some x.block := fun hp x hx => by
    refine ⟨(R.far hp x hx).1, fun e => ?_⟩
    simp only [Value.ownBlock, Option.some.injEq] at e
    rcases hat with h | h
    · exact (R.far hp x hx).2 (by rw [h, e])
    · obtain ⟨⟨ao', cap', e', h1, h2, h3, h4⟩, _⟩ := R.data
      simp only [Value.slice.injEq, true_and] at e'
      obtain ⟨rfl, rfl⟩ := e'
      obtain ⟨b, off, rfl, hc⟩ := h4 hp
      simp only [Option.some.injEq] at hx
      subst hx
      have := cell_lt (hc 0 hp)
      simp only at this e
      omega
  refine ⟨⟨?_, rd_setCell hdata (fun hp x hx => (R.far hp x hx).1) _, hfar, ?_, ?_, R.le, R.len, R.low⟩, ?_⟩
  · have := heap_setCell_same w9 d 2 _ 68 (.slice (some ⟨g, 0, none⟩) (us.length + 1) cap9) hblk
    simpa using this
  · rw [List.length_append]
    exact ownsRow_setCell_other hown (own_other hown hblk (by decide)) _
  · exact ⟨hpile'.1, fun i hi => own_setCell (hpile'.2.1 i hi) (own_other (hpile'.2.1 i hi).2 hblk (by decide)) _, hpile'.2.2⟩
  · refine ((Below.refl base w7).grown hg ?_ (fun k hk => ?_)).setCell R.low _
    · have := R.lt; have := R.low; omega
    · exact (World.ownsRow.lt R.pay k hk).1

theorem frameAt_pay (l : List Int) : (frameAt l).2.1.length ≤ l.length := by
  unfold frameAt
  split
  · simp
  · split
    · simp
    · split
      · simp
      · split
        · simp
        · split
          · simp only [List.length_take, List.length_drop]; omega
          · simp

theorem RS.goes {w : World} {base d : Nat} {ao : Option Addr} {cap : Nat} {xs : List Int} {pv : Value} {us : List Value} {xss : List (List Int)} (hl : xs.length ≤ 65536) : Goes (fun w' a => RS w' base d ao cap xs a pv us xss ∧ Below base w w') d ao cap xs where
  c0 := fun h => h.1.c0
  c1 := fun h => h.1.c1
  fz := fun h => h.1.fz 1
  data := fun h => h.1.data
  le := fun h => h.1.le
  len := hl
  drew := fun h n => ⟨h.1.below (below_same _ n), below_drewN h.2 n⟩
  put := fun h n hn => ⟨h.1.setAt n hn, h.2.setCell h.1.low _⟩

/-- What allF says of the rest, said of the whole. -/
def Through (F : Nat) (l0 : List Int) (ps : List (List Int)) (k f : Nat) (l : List Int) : Prop := allF F l0 = (ps ++ (allF f l).1, k + (allF f l).2.1, (allF f l).2.2)

theorem Through.step {F : Nat} {l0 : List Int} {ps : List (List Int)} {k f : Nat} {l : List Int} (h : Through F l0 ps k (f + 1) l) (hw : (frameAt l).1 = -1) : Through F l0 (ps ++ [(frameAt l).2.1]) (k + (frameAt l).2.2) f (l.drop (frameAt l).2.2) := by
  unfold Through at h ⊢
  rw [h, allF_more hw]
  simp [Nat.add_assoc]
theorem Through.stop {F : Nat} {l0 : List Int} {ps : List (List Int)} {k f : Nat} {l : List Int} (h : Through F l0 ps k (f + 1) l) (hw : (frameAt l).1 ≠ -1) : allF F l0 = (ps, k, (frameAt l).1) := by
  unfold Through at h
  rw [h, allF_end hw]
  simp

set_option maxHeartbeats 1000000 in
theorem frames_any (w : World) (base d : Nat) (ao : Option Addr) (cap : Nat) (xs : List Int) (at0 : Nat) (pv : Value) (us : List Value) (xss : List (List Int)) (h : RS w base d ao cap xs at0 pv us xss)
    (hub : us.length + xs.length ≤ 4294967296) :
    Calls Try.prog 42 #[.pointer (some ⟨d, 0, none⟩)] w fun e w' => e = .returned (.int .i64 (allF (xs.length + 1) (xs.drop at0)).2.2) ∧
      ∃ pv' us', RS w' base d ao cap xs (at0 + (allF (xs.length + 1) (xs.drop at0)).2.1) pv' us' (xss ++ (allF (xs.length + 1) (xs.drop at0)).1) ∧ Below base w w' := by
  have HRS : Hid (RS w base d ao cap xs at0 pv us xss) := h
  have hle := h.le
  clear h
  go_enter Try.func42, Try.ntmps42
  go_wp2
  go_loopg [3] (xs.length - at0) (fun g s wr => ∃ (at_ : Nat) (pv' : Value) (us' : List Value) (ps : List (List Int)) (f : Nat), g = xs.length - at_ ∧ at0 ≤ at_ ∧ at_ ≤ xs.length ∧ Hid (RS wr base d ao cap xs at_ pv' us' (xss ++ ps) ∧ Below base w wr ∧ us'.length + (xs.length - at_) ≤ us.length + xs.length ∧ xs.length - at_ < f + 1 ∧ Through (xs.length + 1) (xs.drop at0) ps (at_ - at0) (f + 1) (xs.drop at_)))
  case atStart => exact ⟨at0, pv, us, [], xs.length, rfl, Nat.le_refl _, hle, hide ⟨by simpa using HRS.out, Below.refl _ _, by omega, by omega, by simp [Through]⟩⟩
  case round =>
    obtain ⟨at_, pv', us', ps, f, rfl, hat0, hatl, HR⟩ := hrel
    have hc1 := HR.out.1.c1
    have hf1 := HR.out.1.fz 1
    by_cases hw : (frameAt (xs.drop at_)).1 = -1
    · have HW : Hid ((frameAt (xs.drop at_)).1 = -1) := hw
      have hsz := frameAt_size hw
      rw [List.length_drop] at hsz
      clear hw
      have HC : Hid (Calls Try.prog 61 #[.pointer (some ⟨d, 0, none⟩)] wr fun e w' => ∃ o c, e = .returned (.tuple #[.slice o (frameAt (xs.drop at_)).2.1.length c, .bool true, .int .i64 0]) ∧ RdA w' (.slice o (frameAt (xs.drop at_)).2.1.length c) (frameAt (xs.drop at_)).2.1 ∧ RS w' base d ao cap xs (at_ + (frameAt (xs.drop at_)).2.2) pv' us' (xss ++ ps) ∧ Below base wr w') :=
        frame_some (RS.goes HR.out.1.len) wr at_ ⟨HR.out.1, Below.refl _ _⟩ HW.out
      have HT : Hid (Through (xs.length + 1) (xs.drop at0) (ps ++ [(frameAt (xs.drop at_)).2.1]) (at_ - at0 + (frameAt (xs.drop at_)).2.2) f (xs.drop (at_ + (frameAt (xs.drop at_)).2.2))) := by
        have := HR.out.2.2.2.2.step HW.out
        rw [List.drop_drop] at this
        exact this
      have HPl : Hid ((frameAt (xs.drop at_)).2.1.length ≤ 65536) := by
        have h1 := frameAt_pay (xs.drop at_)
        have h2 := HR.out.1.len
        rw [List.length_drop] at h1
        show _ ≤ _
        omega
      clear HW
      generalize (frameAt (xs.drop at_)).2.2 = sz at HC HT hsz
      generalize (frameAt (xs.drop at_)).2.1 = P at HC HT HPl
      have hub' : us'.length ≤ 4294967296 := by have := HR.out.2.2.1; omega
      go_wp2_with fail
      refine HC.out.mono ?_
      rintro e w6 ⟨o6, c6, rfl, HPay0, R6, B6⟩
      have HPay : Hid (RdA w6 (.slice o6 P.length c6) P) := HPay0
      have HR6 : Hid (RS w6 base d ao cap xs (at_ + sz) pv' us' (xss ++ ps) ∧ Below base w w6) := ⟨R6, HR.out.2.1.trans B6⟩
      have hcd := R6.c2
      have hdl6 := R6.lt
      have hlow := R6.low
      clear R6 B6 HPay0 HC hc1 hf1
      generalize hPL : P.length = PL at HPay HPl ⊢
      have HPL : Hid (P.length = PL) := hPL
      clear hPL
      go_wp2
      obtain ⟨i0, hi, hz0, hz1, hz2⟩ := info_parts info22
      have HI : Hid (Try.prog.info? 22 = some i0 ∧ i0.zero = some (.slice none 0 0) ∧ i0.size = 1 ∧ i0.bytes = 24) := ⟨hi, hz0, hz1, hz2⟩
      clear hi hz0 hz1 hz2
      have HJ : Hid (Calls Try.prog 40 #[.slice (some ⟨w6.heap.size, 0, none⟩) 1 1] (w6.alloc (.cells #[.slice o6 PL c6] 22)).drew fun e w' => ∃ o7 c7, e = .returned (.slice o7 P.length c7) ∧ Hid (Own w' (w6.heap.size + 1) (.slice o7 P.length c7) P) ∧ Hid (Below w6.heap.size w6 w') ∧ w'.cell? ⟨d, 2, none⟩ = some pv' ∧ w'.frozen? ⟨d, 2, none⟩ = false ∧ d < w'.heap.size ∧ base ≤ w'.heap.size) := by
        have hba : Below w6.heap.size w6 (w6.alloc (.cells #[.slice o6 PL c6] 22)).drew := ((Below.refl _ _).alloc (Nat.le_refl _) _).drew
        have hsz' : (w6.alloc (.cells #[.slice o6 PL c6] 22)).drew.heap.size = w6.heap.size + 1 := by simp
        refine (join_one _ w6.heap.size o6 PL c6 P (by exact heap_alloc_new w6 _) (by exact HPay.out.below hba (Nat.le_refl _)) (by rw [HPL.out]; exact HPl.out)).mono ?_
        rintro e w' ⟨v, rfl, HO, hb⟩
        rw [hsz'] at HO hb
        have hb6 : Below w6.heap.size w6 w' := hba.trans (hb.mono (by omega))
        obtain ⟨o7, c7, e7, _⟩ := HO.rd
        subst e7
        have hs := hb6.size
        exact ⟨o7, c7, rfl, hide HO, hide hb6, (hb6.cell hdl6).trans hcd, (hb6.frozen hdl6).trans (HR6.out.1.fz 2), by omega, by omega⟩
      have HDP : Hid (pv'.ownBlock ≠ some d) := own_other HR6.out.1.pay HR6.out.1.blk (by decide)
      have HUS : Hid (∀ i, i < us'.length → ∀ k, (us'.getD i (.slice none 0 0)).ownBlock = some k → k < w6.heap.size + 1) := fun i hi k hk => by
        have := ((HR6.out.1.each.2.1 i hi).lt k hk).2
        omega
      go_region_law (first | (go_simp; go_at_call 40; refine HJ.out.mono ?_; rintro e w7 ⟨o7, c7, rfl, HO7, HB7, hc7, hf7, hd7, hl7⟩) | (refine step_append_lies _ rfl _ _ 29 rfl base 22 i0 (.slice none 0 0) 1 24 Try.underlying29 HI.out.1 HI.out.2.1 HI.out.2.2.1 HI.out.2.2.2 rfl (by decide) pv' us'.length us' rfl ((HR6.out.1.below HB7.out).pay.alloc _) ⟨w7.heap.size, 0, none⟩ 1 1 [.slice o7 P.length c7] rfl rfl (cell_one_new _ _ _) (by intro u hu; simp at hu; subst hu; rfl) (by decide) (by unfold maxLen; omega) (by omega) (by simp; omega) (w7.heap.size + 1) (by simp) ?_; intro g cap9 w9 hown hgrow hat hlt; have hb9 : w9.heap[d]? = w7.heap[d]? := (hgrow.block d (by simp; omega) (fun e => HDP.out e.symm)).trans (Below.heap_alloc w7 _ d hd7); have hc9 : w9.cell? ⟨d, 2, none⟩ = some pv' := (World.cell?_of_block hb9).trans hc7; have hf9 : w9.frozen? ⟨d, 2, none⟩ = false := (World.frozen?_of_block hb9).trans hf7; clear hb9))
      all_goals
        have HFin : Hid (RS (w9.setCell ⟨d, 2, none⟩ (.slice (some ⟨g, 0, none⟩) (us'.length + 1) cap9)) base d ao cap xs (at_ + sz) (.slice (some ⟨g, 0, none⟩) (us'.length + 1) cap9) (us' ++ [.slice o7 P.length c7]) ((xss ++ ps) ++ [P]) ∧ Below base w (w9.setCell ⟨d, 2, none⟩ (.slice (some ⟨g, 0, none⟩) (us'.length + 1) cap9))) := by
          have hp := pushed (HR6.out.1.below HB7.out) HO7.out (by omega) HUS.out hown hgrow hat
          exact hide ⟨hp.1, (HR6.out.2.trans (HB7.out.mono (by omega))).trans hp.2⟩
        clear hown hgrow hat hc9 hf9 HO7 HB7 HUS HDP HJ
        go_wp2
        go_roundg (xs.length - (at_ + sz))
        case measure => omega
        case rel =>
          have hff : f ≠ 0 := by have := HR.out.2.2.2.1; omega
          obtain ⟨f', rfl⟩ := Nat.exists_eq_succ_of_ne_zero hff
          refine ⟨at_ + sz, _, us' ++ [.slice o7 P.length c7], ps ++ [P], f', rfl, by omega, by omega, hide ⟨by rw [← List.append_assoc]; exact HFin.out.1, HFin.out.2, ?_, ?_, ?_⟩⟩
          · have := HR.out.2.2.1
            simp
            omega
          · have := HR.out.2.2.2.1
            omega
          · have := HT.out
            rw [show at_ - at0 + sz = at_ + sz - at0 by omega] at this
            exact this
    · have HW : Hid (allF (xs.length + 1) (xs.drop at0) = (ps, at_ - at0, (frameAt (xs.drop at_)).1)) := HR.out.2.2.2.2.stop hw
      have HC : Hid (Calls Try.prog 61 #[.pointer (some ⟨d, 0, none⟩)] wr fun e w' => e = .returned (.tuple #[.slice none 0 0, .bool false, .int .i64 (frameAt (xs.drop at_)).1]) ∧ ∃ a, RS w' base d ao cap xs a pv' us' (xss ++ ps) ∧ Below base wr w') :=
        frame_none (RS.goes HR.out.1.len) wr at_ ⟨HR.out.1, Below.refl _ _⟩ hw
      clear hw
      generalize (frameAt (xs.drop at_)).1 = c at HC HW
      go_wp2_with fail
      refine HC.out.mono ?_
      rintro e w1 ⟨rfl, a1, R1, B1⟩
      have hc11 := R1.c1
      have hf11 := R1.fz 1
      have HFin : Hid (RS (w1.setCell ⟨d, 1, none⟩ (.int .i64 at_)) base d ao cap xs at_ pv' us' (xss ++ ps) ∧ Below base w (w1.setCell ⟨d, 1, none⟩ (.int .i64 at_))) :=
        hide ⟨R1.setAt at_ hatl, (HR.out.2.1.trans B1).setCell R1.low _⟩
      clear R1 B1 HC
      go_wp2
      go_ret
      rw [HW.out]
      refine ⟨rfl, pv', us', ?_, HFin.out.2⟩
      have := HFin.out.1
      rw [show at0 + (at_ - at0) = at_ by omega]
      exact this

/-- What Unframe answers. -/
def unfA (xs : List Int) : List (List Int) × Nat × Int :=
  if 65536 < xs.length then ([], 0, 2) else
    if (allF (xs.length + 1) xs).2.2 = 0 then allF (xs.length + 1) xs else ([], (allF (xs.length + 1) xs).2.1, (allF (xs.length + 1) xs).2.2)

set_option maxHeartbeats 1000000 in
theorem implUnframe (w : World) (b : Value) (xs : List Int) (hb : RdA w b xs) :
    Calls Try.prog 15 #[b] w fun e w' => ∃ v us, e = .returned (.tuple #[v, .int .i64 ((unfA xs).2.1 : Int), .int .i64 (unfA xs).2.2]) ∧ w'.ownsRow w.heap.size 22 1 v us.length us ∧ Pile w' w.heap.size us (unfA xs).1 ∧ Below w.heap.size w w' := by
  have HB : Hid (RdA w b xs) := hb
  obtain ⟨⟨ao, cap, rfl, ha1, ha2, hx, h4⟩, hnil⟩ := hb
  unfold maxLen at ha2
  have HX : Hid (0 < xs.length → ∃ b off, ao = some ⟨b, off, none⟩ ∧ ∀ i, i < xs.length → w.cell? ⟨b, off + i, none⟩ = some (.int .u8 (xs.getD i 0))) := h4
  clear h4 hx hnil
  by_cases hl : 65536 < xs.length
  · have hu : unfA xs = ([], 0, 2) := by rw [unfA, if_pos hl]
    rw [hu]
    have hl' : (65536 : Int) < xs.length := by omega
    go_enter Try.func15, Try.ntmps15
    go_wp2
    go_ret3
    exact ⟨_, [], rfl, World.ownsRow_nil _ _ _ _, Pile.nil _ _, Below.refl _ _⟩
  · have hl' : ¬ (65536 : Int) < xs.length := by omega
    have hu : unfA xs = if (allF (xs.length + 1) xs).2.2 = 0 then allF (xs.length + 1) xs else ([], (allF (xs.length + 1) xs).2.1, (allF (xs.length + 1) xs).2.2) := by rw [unfA, if_neg hl]
    rw [hu]
    clear hu
    have hba : Below w.heap.size w (w.alloc (.cells #[.slice ao xs.length cap, .int .i64 0, .slice none 0 0] 68)) := (Below.refl _ _).alloc (Nat.le_refl _) _
    have HR0 : Hid (RS (w.alloc (.cells #[.slice ao xs.length cap, .int .i64 0, .slice none 0 0] 68)) w.heap.size w.heap.size ao cap xs 0 (.slice none 0 0) [] []) := by
      refine hide ⟨by exact heap_alloc_new w _, HB.out.below hba (Nat.le_refl _), fun hp x hx => ?_, World.ownsRow_nil _ _ _ _, Pile.nil _ _, by omega, by omega, Nat.le_refl _⟩
      obtain ⟨b, off, e, hc⟩ := HX.out hp
      rw [e] at hx
      simp only [Option.some.injEq] at hx
      subst hx
      have := cell_lt (hc 0 hp)
      refine ⟨by simp only at this ⊢; omega, by simp [Value.ownBlock]⟩
    have HC : Hid (Calls Try.prog 42 #[.pointer (some ⟨w.heap.size, 0, none⟩)] (w.alloc (.cells #[.slice ao xs.length cap, .int .i64 0, .slice none 0 0] 68)) fun e w' => e = .returned (.int .i64 (allF (xs.length + 1) xs).2.2) ∧
      ∃ pv' us', RS w' w.heap.size w.heap.size ao cap xs (allF (xs.length + 1) xs).2.1 pv' us' (allF (xs.length + 1) xs).1 ∧ Below w.heap.size w w') := by
      have := frames_any _ w.heap.size w.heap.size ao cap xs 0 (.slice none 0 0) [] [] HR0.out (by simp; omega)
      refine this.mono ?_
      rintro e w' ⟨rfl, pv', us', h1, h2⟩
      simp only [List.drop_zero, Nat.zero_add, List.nil_append] at h1 ⊢
      exact ⟨trivial, pv', us', h1, hba.trans h2⟩
    clear HR0 HX HB hba
    generalize allF (xs.length + 1) xs = r at HC ⊢
    obtain ⟨ps, k, c⟩ := r
    simp only at HC ⊢
    rcases Bool.eq_false_or_eq_true (c != 0) with hc | hc
    · rw [if_neg (by simpa using hc)]
      go_enter Try.func15, Try.ntmps15
      go_wp2_with fail
      refine HC.out.mono ?_
      rintro e w1 ⟨rfl, pv', us', R1, B1⟩
      have hc1 := R1.c1
      have hc2 := R1.c2
      have HF : Hid (Below w.heap.size w w1) := B1
      clear R1 B1 HC
      go_wp2
      go_quiet (fail)
      go_wp2
      go_ret3
      exact ⟨_, [], rfl, World.ownsRow_nil _ _ _ _, Pile.nil _ _, below_drewN HF.out _⟩
    · have hc0 : c = 0 := by simpa using hc
      subst hc0
      rw [if_pos rfl]
      go_enter Try.func15, Try.ntmps15
      go_wp2_with fail
      refine HC.out.mono ?_
      rintro e w1 ⟨rfl, pv', us', R1, B1⟩
      have hc1 := R1.c1
      have hc2 := R1.c2
      have HF : Hid (w1.ownsRow w.heap.size 22 1 pv' us'.length us' ∧ Pile w1 w.heap.size us' ps ∧ Below w.heap.size w w1) := ⟨R1.pay, R1.each, B1⟩
      clear R1 B1 HC
      go_wp2
      go_quiet (fail)
      go_wp2
      go_ret3
      exact ⟨_, us', rfl, HF.out.1, HF.out.2.1.below (below_same w1 _) (Nat.le_refl _), below_drewN HF.out.2.2 _⟩
end Go.Proofs.Ytipcdioolafkpaa.many
