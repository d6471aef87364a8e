/- FnExactFeed returns true at all bytes and leaves them as they were: impl's Feed answers as the specification's, in memory of its own; no condition. -/
import Derived.Test.YtipcdioolafkpafSpecFeed
import Derived.Test.YtipcdioolafkpafMarks
import Derived.Test.YtipcdioolafkpafArgs
namespace Go.Proofs.Ytipcdioolafkpaf.fnExactFeed
open Go.ChangeShapes Go.WideShapes Go.ChangeAt Go.RowKit
open Go.ChangeMaps (open_string shut_string)
open Go.Proofs.Ytipcdioolafkpaf.bytes Go.Proofs.Ytipcdioolafkpaf.pile Go.Proofs.Ytipcdioolafkpaf.put Go.Proofs.Ytipcdioolafkpaf.get Go.Proofs.Ytipcdioolafkpaf.dec Go.Proofs.Ytipcdioolafkpaf.crcs Go.Proofs.Ytipcdioolafkpaf.join Go.Proofs.Ytipcdioolafkpaf.frames Go.Proofs.Ytipcdioolafkpaf.take Go.Proofs.Ytipcdioolafkpaf.reader Go.Proofs.Ytipcdioolafkpaf.one Go.Proofs.Ytipcdioolafkpaf.many Go.Proofs.Ytipcdioolafkpaf.lists Go.Proofs.Ytipcdioolafkpaf.specs Go.Proofs.Ytipcdioolafkpaf.feeds Go.Proofs.Ytipcdioolafkpaf.sizes Go.Proofs.Ytipcdioolafkpaf.specfeed Go.Proofs.Ytipcdioolafkpaf.marked Go.Proofs.Ytipcdioolafkpaf.given
set_option linter.unusedVariables false

theorem own : ownKnob Try.prog.godebug = none := by kernel_rfl
theorem laidOut : laidOutB Try.prog = true := by kernel_rfl

theorem frameAt_pay {l : List Int} (h : (frameAt l).1 = -1) : (frameAt l).2.1.length ≤ (frameAt l).2.2 := by
  unfold frameAt at h ⊢
  by_cases h1 : (getR 9 0 0 l).2.2 = 1
  · rw [if_pos h1] at h; simp at h
  · by_cases h2 : (getR 9 0 0 l).2.2 = 2
    · rw [if_neg h1, if_pos h2] at h; simp at h
    · by_cases h3 : 4096 < (getR 9 0 0 l).1
      · rw [if_neg h1, if_neg h2, if_pos h3] at h; simp at h
      · by_cases h4 : l.length < (getR 9 0 0 l).2.1 + ((getR 9 0 0 l).1.toNat + 4)
        · rw [if_neg h1, if_neg h2, if_neg h3, if_pos h4] at h; simp at h
        · rw [if_neg h1, if_neg h2, if_neg h3, if_neg h4] at h ⊢
          split at h
          · rename_i h5
            rw [if_pos h5]
            simp only [List.length_take]
            omega
          · simp at h
theorem allF_flat : ∀ (f : Nat) (l : List Int), (allF f l).1.flatten.length ≤ l.length
  | 0, l => by simp [allF]
  | f + 1, l => by
    by_cases h : (frameAt l).1 = -1
    · rw [allF_more h]
      have h1 := frameAt_pay h
      have h2 := frameAt_size h
      have h3 := allF_flat f (l.drop (frameAt l).2.2)
      simp only [List.flatten_cons, List.length_append, List.length_drop] at h3 ⊢
      omega
    · rw [allF_end h]; simp
theorem feedF_flat : ∀ (cs : List (List Int)) (held : List Int), held.length ≤ 65536 → (feedF held cs).1.flatten.length ≤ 65536 * cs.length ∧ (feedF held cs).2.1.length ≤ 65536
  | [], held, h => by simp [feedF]; exact h
  | c :: cs, held, h => by
    rw [feedF]
    split
    · simp
    · rename_i hl
      split
      · simp
      · have h1 := allF_flat ((held ++ c).length + 1) (held ++ c)
        rw [List.length_append] at h1
        have h2 := feedF_flat cs ((held ++ c).drop (allF ((held ++ c).length + 1) (held ++ c)).2.1) (by rw [List.length_drop, List.length_append]; omega)
        split
        · rw [List.length_cons]
          refine ⟨?_, h2.2⟩
          rw [List.flatten_append, List.length_append]
          have h3 := h2.1
          rw [List.length_append] at h3 ⊢
          omega
        · simp
theorem feedA_flat (rest : List Int) (cs : List (List Int)) : (feedA rest cs).1.flatten.length ≤ 268435456 ∧ (feedA rest cs).2.1.length ≤ 65536 := by
  unfold feedA
  split
  · simp
  · have := feedF_flat cs rest (by omega)
    refine ⟨?_, this.2⟩
    have h1 := this.1
    omega

set_option maxRecDepth 20000 in
set_option maxHeartbeats 2000000 in
theorem walk (w : World) (v0 v1 : Value) (xs : List Int) (us : List Value) (cs : List (List Int)) (hX : RdA w v0 xs) (hS : RdS w v1 us) (hT : Texts w us cs) :
    Calls Try.prog 6 #[v0, v1] w fun e w' => e = .returned (.bool true) ∧ Below w.heap.size w w' := by
  have HX : Hid (RdA w v0 xs) := hX
  have HS : Hid (RdS w v1 us ∧ Texts w us cs) := ⟨hS, hT⟩
  obtain ⟨⟨a0, cap0, rfl, h1, h2, _, _⟩, _⟩ := hX
  obtain ⟨a1, cap1, rfl, h3, h4, _⟩ := hS
  unfold maxLen at h2 h4
  clear hT
  by_cases hbig : (1048576 : Int) < xs.length
  · go_enter Try.func6, Try.ntmps6
    go_wp2
    go_ret
    exact ⟨rfl, Below.refl _ _⟩
  obtain ⟨F, Hd, C, hFe⟩ : ∃ F Hd C, feedA xs cs = (F, Hd, C) := ⟨_, _, _, rfl⟩
  have HFl : Hid (F.flatten.length ≤ 268435456 ∧ Hd.length ≤ 65536) := by have := feedA_flat xs cs; rw [hFe] at this; exact this
  obtain ⟨T, hT⟩ : ∃ T, T = cs.flatten.length := ⟨_, rfl⟩
  have HT : Hid (T = cs.flatten.length) := hT
  clear hT
  obtain ⟨FT, hFT⟩ : ∃ FT, FT = F.flatten.length := ⟨_, rfl⟩
  have HFT : Hid (FT = F.flatten.length) := hFT
  have hFT' : FT ≤ 268435456 := by rw [hFT]; exact HFl.out.1
  have hHd : Hd.length ≤ 65536 := HFl.out.2
  clear hFT
  have hneC : (C != C) = false := by simp
  have hl48 : xs.length ≤ 281474976710656 := by omega
  go_enter Try.func6, Try.ntmps6
  go_wp2_with fail
  refine (szs_any w _ us cs 1048576 (by omega) (by omega) HS.out.1 HS.out.2).mono ?_
  rintro e wz ⟨⟨r, rfl, hr⟩, hwz⟩
  have hwz' := hwz.symm
  clear hwz
  subst hwz'
  rcases hr with hr | ⟨hr, hsum⟩
  · go_wp2
    go_ret
    exact ⟨rfl, Below.refl _ _⟩
  have hr' : ¬ r < 0 := by omega
  have hun : us.length ≤ 1048576 := by omega
  rw [← HT.out] at hsum
  have hTb : T ≤ 1048576 := by omega
  have HEach : Hid (∀ i, (cs.getD i []).length ≤ 281474976710656) := fun i => by
    have := flat_each (xss := cs) (i := i) (n := T) (by rw [HT.out]; exact Nat.le_refl _)
    omega
  clear hsum
  have HSpec : Hid (∀ (wx : World) (p0 p1 : Value) (ws : List Value), RdA wx p0 xs → RdS wx p1 ws → Texts wx ws cs → Calls Try.prog 23 #[p0, p1] wx fun e w' => ∃ v r, e = .returned (.tuple #[v, r, .int .i64 C]) ∧ ∃ us', Ans w' wx.heap.size v us' F ∧ Own w' wx.heap.size r Hd ∧ Below wx.heap.size wx w') := fun wx p0 p1 ws q0 q1 q2 => by
    have := specFeed wx p0 p1 xs ws cs q0 q1 q2 (fun i _ => HEach.out i)
    rw [hFe] at this
    exact this
  have HImpl : Hid (∀ (wx : World) (p0 p1 : Value) (ws : List Value), RdA wx p0 xs → RdS wx p1 ws → Texts wx ws cs → Calls Try.prog 25 #[p0, p1] wx fun e w' => ∃ v r, e = .returned (.tuple #[v, r, .int .i64 C]) ∧ ∃ us', Ans w' wx.heap.size v us' F ∧ Own w' wx.heap.size r Hd ∧ (∀ i, i < us'.length → ∀ k, (us'.getD i (.slice none 0 0)).ownBlock = some k → r.ownBlock ≠ some k) ∧ Below wx.heap.size wx w') := fun wx p0 p1 ws q0 q1 q2 => by
    refine (implFeed wx p0 p1 xs ws cs q0 q1 q2 (fun i _ => HEach.out i)).mono ?_
    rintro e w' ⟨v, us', r, rfl, g1, g2, g3, g4, g5⟩
    rw [hFe] at g2 g3 ⊢
    exact ⟨v, r, rfl, us', ⟨g1, g2⟩, g3, g4, g5⟩
  clear hFe
  have HCopy : Hid (∀ wx : World, Below w.heap.size w wx → Calls Try.prog 24 #[.slice a1 us.length cap1] wx fun e w' => ∃ v, e = .returned v ∧ CopyOf wx cs v w') := fun wx hb => tos_own wx _ us cs (HS.out.1.below hb (Nat.le_refl _)) (HS.out.2.below hb (Nat.le_refl _)) hun (fun i _ => HEach.out i)
  have HTo : Hid (∀ wx : World, Below w.heap.size w wx → Calls Try.prog 10 #[.slice a0 xs.length cap0] wx fun e w' => ∃ v, e = .returned v ∧ Own w' wx.heap.size v xs ∧ Below wx.heap.size wx w') := fun wx hb => to_own wx _ xs hl48 (HX.out.below hb (Nat.le_refl _)).1
  go_wp2_with fail
  refine (HTo.out _ (Below.refl _ _)).mono ?_
  rintro e w1 ⟨x1, rfl, O1, b1⟩
  have s1 := b1.size
  go_wp2_with fail
  refine (HCopy.out _ b1).mono ?_
  rintro e w2 ⟨y1, rfl, vs1, A1, b2⟩
  have s2 := b2.size
  have B2 : Below w.heap.size w w2 := b1.trans (b2.mono s1)
  go_wp2_with fail
  refine (HSpec.out w2 _ _ vs1 (Own.rdA (O1.below b2 (Nat.le_refl _))) A1.rdS A1.texts).mono ?_
  rintro e w3 ⟨vW, rW, rfl, usW, AW, OW, b3⟩
  have s3 := b3.size
  have B3 : Below w.heap.size w w3 := B2.trans (b3.mono (by omega))
  clear O1 A1 b1 b2 b3 B2
  have HW3 : Hid (Below w.heap.size w w3 ∧ ∀ wx, Below w3.heap.size w3 wx → Ans wx w2.heap.size vW usW F ∧ Own wx w2.heap.size rW Hd) := ⟨B3, fun wx hb => ⟨AW.below hb (Nat.le_refl _), OW.below hb (Nat.le_refl _)⟩⟩
  clear AW OW
  go_wp2_with fail
  refine (HTo.out _ B3).mono ?_
  rintro e w4 ⟨x0, rfl, OX, b4⟩
  have s4 := b4.size
  go_wp2_with fail
  refine (HCopy.out _ (B3.trans (b4.mono (by omega)))).mono ?_
  rintro e w5 ⟨y0, rfl, vs5, AY, b5⟩
  have s5 := b5.size
  go_wp2_with fail
  refine (HImpl.out w5 _ _ vs5 (Own.rdA (OX.below b5 (Nat.le_refl _))) AY.rdS AY.texts).mono ?_
  rintro e w6 ⟨g0, rG, rfl, usG, AG, OG, hap, b6⟩
  have s6 := b6.size
  have b36 : Below w3.heap.size w3 w6 := b4.trans ((b5.mono s4).trans (b6.mono (by omega)))
  have HAp : Hid (∀ i, i < usG.length → ∀ k, (usG.getD i (.slice none 0 0)).ownBlock = some k → rG.ownBlock ≠ some k) := hap
  clear hap
  go_wp2_with fail
  refine (eqs_same _ _ _ _ _ F AG.rdS (HW3.out.2 _ b36).1.rdS AG.texts (HW3.out.2 _ b36).1.texts).mono ?_
  rintro e w7 ⟨rfl, n7, rfl⟩
  go_wp2_with fail
  refine (eq_same _ _ _ Hd (by exact OG.rd) (by exact (HW3.out.2 _ b36).2.rd)).mono ?_
  rintro e w8 ⟨rfl, n8, rfl⟩
  go_wp2_with fail
  refine (HTo.out _ (by exact below_drewN (B3.trans (b36.mono (by omega))) _)).mono ?_
  rintro e w9 ⟨x9, rfl, O9, b9⟩
  have b69 : Below w6.heap.size w6 w9 := ⟨b9.os, b9.tape, b9.output, b9.size, b9.block⟩
  have s9 := b69.size
  have OX9 := OX.below ((b5.trans (b6.mono s5)).trans (b69.mono (by omega))) (by omega)
  go_wp2_with fail
  refine (eq_same _ _ _ xs OX9.rd O9.rd).mono ?_
  rintro e w10 ⟨rfl, n10, rfl⟩
  have b39 : Below w3.heap.size w3 w9 := b36.trans (b69.mono (by omega))
  go_wp2_with fail
  refine (HCopy.out _ (by exact below_drewN (B3.trans (b39.mono (by omega))) _)).mono ?_
  rintro e w11 ⟨y11, rfl, vs11, A11, b11⟩
  have b911 : Below w9.heap.size w9 w11 := ⟨b11.os, b11.tape, b11.output, b11.size, b11.block⟩
  have s11 := b911.size
  have b611 : Below w6.heap.size w6 w11 := b69.trans (b911.mono (by omega))
  have b511 : Below w5.heap.size w5 w11 := b6.trans (b611.mono (by omega))
  have AY11 := AY.below b511 (Nat.le_refl _)
  have OX11 := OX9.below b911 (Nat.le_refl _)
  clear O9 b9 b11 OX9
  go_wp2_with fail
  refine (eqs_same _ _ _ _ _ cs AY11.rdS A11.rdS AY11.texts A11.texts).mono ?_
  rintro e w12 ⟨rfl, n12, rfl⟩
  clear A11
  go_wp2_with fail
  refine (mark_own _ w3.heap.size x0 1 xs (by omega) (by omega) (by exact OX11)).mono ?_
  rintro e w13 ⟨rfl, _, hg13⟩
  have g13 : w11.grownBy w13 x0.ownBlock := ⟨hg13.os, hg13.tape, hg13.output, hg13.size, hg13.block⟩
  clear hg13
  have hx0 : ∀ k, x0.ownBlock = some k → w3.heap.size ≤ k ∧ k < w4.heap.size := OX.lt
  have b311 : Below w3.heap.size w3 w11 := b39.trans (b911.mono (by omega))
  have b313 : Below w3.heap.size w3 w13 := b311.grown g13 (by omega) (fun k hk => (hx0 k hk).1)
  have s13 := g13.size
  have kY : Keep w4.heap.size w5.heap.size w5 w13 := (Keep.of_below b511 (Nat.le_refl _)).trans (Keep.of_grown g13 (by omega) (fun k hk => by have := hx0 k hk; omega))
  have kG : Keep w5.heap.size w6.heap.size w6 w13 := (Keep.of_below b611 (Nat.le_refl _)).trans (Keep.of_grown g13 (by omega) (fun k hk => by have := hx0 k hk; omega))
  have AY13 := Ans.spanK AY kY (Nat.le_refl _)
  have hyl : ∀ i, i < vs5.length → ∀ k, (vs5.getD i (.slice none 0 0)).ownBlock = some k → w4.heap.size ≤ k ∧ k < w5.heap.size := fun i hi k hk => (AY.pile.2.1 i hi).lt k hk
  clear AY11 OX11 b311 b511 b611 b911 b39 b69 kY g13 hx0
  go_wp2_with fail
  refine (marks_touch _ w4.heap.size y0 vs5 cs (1 + xs.length) (by omega) (by rw [← HT.out]; omega) (MP.of_pile _ AY13.row AY13.pile)).mono ?_
  rintro e w14 ⟨rfl, _, t14⟩
  rw [← HT.out]
  have s14 := t14.2.2.2.1
  have b314 : Below w3.heap.size w3 w14 := b313.trans (t14.below (by omega) (fun i hi k hk => by have := hyl i hi k hk; omega))
  have kG14 : Keep w5.heap.size w6.heap.size w6 w14 := kG.trans (t14.keep (by omega) (fun i hi k hk => by have := hyl i hi k hk; omega))
  have AG14 := Ans.spanK AG kG14 (Nat.le_refl _)
  have OG14 := Own.span OG kG14 (Nat.le_refl _)
  have hnk : ¬ (1 : Int) + xs.length + T < 0 := by omega
  clear AY13 t14 b313 kG
  go_wp2_with fail
  refine (eqs_same _ _ _ _ _ F AG14.rdS (HW3.out.2 _ b314).1.rdS AG14.texts (HW3.out.2 _ b314).1.texts).mono ?_
  rintro e w15 ⟨rfl, n15, rfl⟩
  go_wp2_with fail
  refine (eq_same _ _ _ Hd (by exact OG14.rd) (by exact (HW3.out.2 _ b314).2.rd)).mono ?_
  rintro e w16 ⟨rfl, n16, rfl⟩
  go_wp2_with fail
  refine (marks_touch _ w5.heap.size g0 usG F 1 (by omega) (by rw [← HFT.out]; omega) (by exact MP.of_pile _ AG14.row AG14.pile)).mono ?_
  rintro e w17 ⟨rfl, M17, t17'⟩
  rw [← HFT.out]
  have t17 : Go.Proofs.Ytipcdioolafkpaf.marked.Touch usG w14 w17 := t17'
  clear t17'
  have s17 := t17.2.2.2.1
  have hgl : ∀ i, i < usG.length → ∀ k, (usG.getD i (.slice none 0 0)).ownBlock = some k → w5.heap.size ≤ k ∧ k < w6.heap.size := fun i hi k hk => (AG.pile.2.1 i hi).lt k hk
  have b317 : Below w3.heap.size w3 w17 := b314.trans (t17.below (by omega) (fun i hi k hk => by have := hgl i hi k hk; omega))
  have OG17 := t17.own OG14 HAp.out
  clear AG14 OG14 t17
  go_wp2_with fail
  refine (mark_own _ w5.heap.size rG (1 + FT) Hd (by omega) (by omega) OG17).mono ?_
  rintro e w18 ⟨rfl, OG18, g18⟩
  have M18 := MP.kept M17 OG17 g18 HAp.out
  have b318 : Below w3.heap.size w3 w18 := b317.grown g18 (by omega) (fun k hk => by have := (OG17.lt k hk).1; omega)
  have s18 := g18.size
  have HHeld : Hid (∀ wx, Below w18.heap.size w18 wx → Calls Try.prog 21 #[g0, .int .i64 1] wx fun e w' => e = .returned (.int .i64 (1 + FT)) ∧ w' = wx) := fun wx hb => by
    rw [HFT.out]
    exact helds_same wx w5.heap.size g0 usG F 1 (by omega) (by rw [← HFT.out]; omega) (M18.below hb)
  have HHeld2 : Hid (∀ wx, Below w18.heap.size w18 wx → Calls Try.prog 16 #[rG, .int .i64 (1 + FT)] wx fun e w' => e = .returned (.int .i64 (1 + FT + Hd.length)) ∧ w' = wx) := fun wx hb =>
    held_same wx _ (1 + FT) Hd.length (by omega) (by omega) (OG18.below hb (Nat.le_refl _)).rd
  have hn1 : ¬ (1 : Int) + FT < 0 := by omega
  have hn2 : ¬ (1 : Int) + FT + Hd.length < 0 := by omega
  have hne2 : ((1 : Int) + FT + Hd.length != (1 : Int) + FT + Hd.length) = false := by simp
  clear M17 M18 OG17 OG18 g18 b317
  go_wp2_with fail
  refine (HHeld.out _ (Below.refl _ _)).mono ?_
  rintro e w19 ⟨rfl, rfl⟩
  go_wp2_with fail
  refine (HHeld2.out _ (Below.refl _ _)).mono ?_
  rintro e w19 ⟨rfl, rfl⟩
  have B18 : Below w.heap.size w w19 := HW3.out.1.trans (b318.mono (by omega))
  go_wp2_with fail
  refine (HTo.out _ B18).mono ?_
  rintro e w20 ⟨x20, rfl, O20, b20⟩
  have s20 := b20.size
  go_wp2_with fail
  refine (HCopy.out _ (B18.trans (b20.mono (by omega)))).mono ?_
  rintro e w21 ⟨y21, rfl, vs21, A21, b21⟩
  have s21 := b21.size
  go_wp2_with fail
  refine (HImpl.out w21 _ _ vs21 (Own.rdA (O20.below b21 (Nat.le_refl _))) A21.rdS A21.texts).mono ?_
  rintro e w22 ⟨h0, rH, rfl, usH, AH, OH, _, b22⟩
  have b1922 : Below w19.heap.size w19 w22 := b20.trans ((b21.mono s20).trans (b22.mono (by omega)))
  have b322 : Below w3.heap.size w3 w22 := b318.trans (b1922.mono (by omega))
  have B22 : Below w.heap.size w w22 := B18.trans (b1922.mono (by omega))
  clear O20 A21 b20 b21 b22
  go_wp2_with fail
  refine (eqs_same _ _ _ _ _ F AH.rdS (HW3.out.2 _ b322).1.rdS AH.texts (HW3.out.2 _ b322).1.texts).mono ?_
  rintro e w23 ⟨rfl, n23, rfl⟩
  go_wp2_with fail
  refine (eq_same _ _ _ Hd (by exact OH.rd) (by exact (HW3.out.2 _ b322).2.rd)).mono ?_
  rintro e w24 ⟨rfl, n24, rfl⟩
  go_wp2_with fail
  refine (HHeld.out _ (by exact below_drewN b1922 _)).mono ?_
  rintro e w25 ⟨rfl, rfl⟩
  go_wp2_with fail
  refine (HHeld2.out _ (by exact below_drewN b1922 _)).mono ?_
  rintro e w26 ⟨rfl, rfl⟩
  go_wp2
  go_ret
  exact ⟨rfl, by exact below_drewN B22 _⟩

set_option maxRecDepth 100000 in
theorem lifted (os : Os) (started : os.Started) (H : Type) (enc : TypeId × Value → H) :
    ReturnsInHanded {} Try.checked os 6 .any (Rows.fnExactFeedSpec.pre6 enc Try.prog Try.f6 Rows.fnExactFeedRow.domain false) (Rows.fnExactFeedSpec.post enc Try.prog Try.f6 false true false false) := by
  refine returnsInHanded_of_change (C := Try.checked) own started (by kernel_rfl) Try.func6
    (ChangeSpec.witness6 (enc := enc) (C := Try.checked) false ⟨#[], #[.slice none 0 0, .slice none 0 0], []⟩ 8 (by kernel_rfl) (by kernel_rfl) (by kernel_rfl) (by kernel_rfl)) ?_
  intro W base args ds gs before hval0 hW hcnd _
  have hval : ∀ (j : Nat) t v, Try.f6.params[j]? = some t → args[j]? = some v → Value.okWide Try.prog W .any base t v := hval0
  have hW' := hW
  obtain ⟨p, q, hA0, hV, rfl, hfz, hnd⟩ := hW
  have hA : DataW.TrodAll enc Try.prog W 0 (fun _ => true) true Try.f6.params.toList args.toList ds p := hA0
  rw [Try.params6] at hA hval
  obtain ⟨v0, vs0, d0, ds0, p0, q0, hargs, rfl, rfl, h0, r0⟩ := trodAll_cons hA
  obtain ⟨v1, vs1, d1, ds1, p1, q1, rfl, rfl, rfl, h1, r1⟩ := trodAll_cons r0
  obtain ⟨rfl, rfl, rfl⟩ := trodAll_nil r1
  obtain rfl : args = #[v0, v1] := by cases args; simp_all
  obtain ⟨rfl, rfl⟩ := trodVars_none hV
  obtain ⟨a0, len0, cap0, rfl⟩ := okWide_slice Try.underlying22 (hval 0 22 v0 rfl rfl)
  have k0 := h0
  have lt0 : ∀ x ∈ p0, x.block < W.heap.size := by obtain ⟨m, hm⟩ := k0; exact DataW.trod_lt m _ _ _ hm
  obtain ⟨xs0, hx0⟩ : ∃ xs, RdA W (.slice a0 len0 cap0) xs := by
    obtain ⟨fuel, hf⟩ := h0
    obtain ⟨v, xs, hcs, hr⟩ := open_bytes hf
    simp [Value.cells] at hcs
    subst hcs
    exact ⟨xs, hr⟩
  obtain ⟨a1, len1, cap1, rfl⟩ := okWide_slice Try.underlying30 (hval 1 30 v1 rfl rfl)
  have k1 := h1
  have lt1 : ∀ x ∈ p1, x.block < W.heap.size := by obtain ⟨m, hm⟩ := k1; exact DataW.trod_lt m _ _ _ hm
  obtain ⟨us1, xss1, hx1, hy1⟩ : ∃ us xss, RdS W (.slice a1 len1 cap1) us ∧ Texts W us xss := by
    obtain ⟨fuel, hf⟩ := h1
    obtain ⟨v, us, xss, hcs, hr⟩ := open_lists hf
    simp [Value.cells] at hcs
    subst hcs
    exact ⟨us, xss, hr⟩
  clear hA0 hval0
  refine (walk W _ _ _ _ _ hx0 hx1 hy1).mono fun e W' ⟨he, bel⟩ => ?_
  subst he
  exact ⟨_, rfl, _, _, _, [], _, [], hW', trodAll_mk1 (shut_bool Try.underlying4 _), (trodAll_cons_mk (Below.trod laidOut (by kernel_rfl) (of_decide_eq_true (by kernel_rfl)) k0 bel lt0) (trodAll_cons_mk (Below.trod laidOut (by kernel_rfl) (of_decide_eq_true (by kernel_rfl)) k1 bel lt1) trodAll_mk0)), rfl, bel.frame _, fun h => by cases h⟩

theorem over : Rows.fnExactFeedRow.holds Try.pinned (OpenSpec.ofChange Rows.fnExactFeedSpec) :=
  OpenClaim.holds_of_wide 6 Try.f6 rfl rfl rfl rfl rfl rfl rfl ⟨rfl, rfl, rfl, rfl, rfl⟩ rfl rfl rfl rfl rfl (by kernel_rfl) Try.func6 (by kernel_rfl)
    (of_decide_eq_true (by kernel_rfl)) (by unfold Func.isWrapper; first | (rw [if_pos (by decide +kernel)]; kernel_rfl) | (rw [if_neg (by decide +kernel)]; exact ⟨rfl, rfl⟩))
    (fun os started H enc _ => lifted os started H enc)

/-- The statement. -/
theorem proved : Rows.FnExactFeedSaid := over
#print axioms proved
end Go.Proofs.Ytipcdioolafkpaf.fnExactFeed
