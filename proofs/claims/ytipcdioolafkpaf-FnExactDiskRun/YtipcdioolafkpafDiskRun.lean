/- FnExactDiskRun returns true at all lists of acts and leaves them as they were: impl's DiskRun answers as the specification's, in memory of its own; no condition. -/
import Derived.Test.YtipcdioolafkpafSpecRun
import Derived.Test.YtipcdioolafkpafActMarks
import Derived.Test.YtipcdioolafkpafPieceDisk
import Derived.Test.YtipcdioolafkpafArgActs
import Derived.OpenShut
import Derived.ShutString
import Derived.ChangeOld
namespace Go.Proofs.Ytipcdioolafkpaf.fnExactDiskRun
open Go.ChangeShapes Go.WideShapes Go.ChangeAt Go.RowKit
open Go.Proofs.Ytipcdioolafkpaf.bytes Go.Proofs.Ytipcdioolafkpaf.pile Go.Proofs.Ytipcdioolafkpaf.reader Go.Proofs.Ytipcdioolafkpaf.lists Go.Proofs.Ytipcdioolafkpaf.sizes Go.Proofs.Ytipcdioolafkpaf.marked Go.Proofs.Ytipcdioolafkpaf.given Go.Proofs.Ytipcdioolafkpaf.disks Go.Proofs.Ytipcdioolafkpaf.diskmarks Go.Proofs.Ytipcdioolafkpaf.crashes Go.Proofs.Ytipcdioolafkpaf.acts Go.Proofs.Ytipcdioolafkpaf.diskof Go.Proofs.Ytipcdioolafkpaf.doside Go.Proofs.Ytipcdioolafkpaf.implrun Go.Proofs.Ytipcdioolafkpaf.specact Go.Proofs.Ytipcdioolafkpaf.specrows Go.Proofs.Ytipcdioolafkpaf.specrun Go.Proofs.Ytipcdioolafkpaf.pieces Go.Proofs.Ytipcdioolafkpaf.actrows Go.Proofs.Ytipcdioolafkpaf.actmarks Go.Proofs.Ytipcdioolafkpaf.piecemarks Go.Proofs.Ytipcdioolafkpaf.piecedisk Go.Proofs.Ytipcdioolafkpaf.givenacts
open Go.ChangeMaps (open_string shut_string)
set_option linter.unusedVariables false

theorem own : ownKnob Try.prog.godebug = none := by kernel_rfl
theorem laidOut : laidOutB Try.prog = true := by kernel_rfl

theorem runA_small (al : List Act4) : (runA al).1.length ≤ 200 ∧ (runA al).2.1.length + (runA al).2.2.1.flatten.length ≤ 8192 := by
  unfold runA
  split
  · simp
  · split
    · simp
    · have h := runD_small al [] [] (by simp)
      exact ⟨by simp only; omega, h.1⟩

theorem slice_piece (ao : Option Addr) (n : Nat) : Value.slice ao n n = pieceV ao 0 (0 + n) := by
  unfold pieceV
  by_cases h : n = 0
  · subst h; simp
  · rw [if_neg (by omega)]
    cases ao with
    | none => simp
    | some a => simp [Addr.add]

set_option maxHeartbeats 1000000 in
theorem markPD (w : World) (base : Nat) (ao : Option Addr) (ca : Nat) (pv : Value) (xs : List Int) (cs : List (List Int)) (q : Int) (h0 : 0 ≤ q) (hq : q + xs.length + cs.flatten.length ≤ 4611686018427387904)
    (hp : w.ownsRow base 22 1 pv cs.length (piecesV ao xs.length cs cs.length)) (ha : Own w base (.slice ao (xs ++ cs.flatten).length ca) (xs ++ cs.flatten)) :
    Calls Try.prog 35 #[.agg #[.slice ao xs.length xs.length, pv], .int .i64 q] w fun e w' => e = .returned (.int .i64 (q + xs.length + cs.flatten.length)) ∧ Own w' base (.slice ao (xs.length + cs.flatten.length) ca) (marks q (xs.length + cs.flatten.length)) ∧ w'.ownsRow base 22 1 pv cs.length (piecesV ao xs.length cs cs.length) ∧ w.grownBy w' (Value.slice ao (xs.length + cs.flatten.length) ca).ownBlock := by
  rw [List.length_append] at ha
  have HP : Hid (w.ownsRow base 22 1 pv cs.length (piecesV ao xs.length cs cs.length)) := hp
  obtain ⟨po, pc, hpv, _⟩ := row_rd hp (piecesV_length _ _ _ _)
  rw [piecesV_length] at hpv
  subst hpv
  obtain ⟨W0, hW0⟩ : ∃ W0, W0 = w.alloc (.cells #[.slice ao xs.length xs.length, .slice po cs.length pc] 43) := ⟨_, rfl⟩
  have b0 : Below w.heap.size w W0 := by rw [hW0]; exact (Below.refl _ _).alloc (Nat.le_refl _) _
  have k0 : W0.heap[w.heap.size]? = some (.cells #[.slice ao xs.length xs.length, .slice po cs.length pc] 43 (0, 0)) := by rw [hW0]; exact heap_alloc_new w _
  have hA0 : Own W0 base (.slice ao (([] : List Int) ++ xs ++ cs.flatten).length ca) ([] ++ xs ++ cs.flatten) := by simpa using ha.below b0 (Nat.le_refl _)
  have hg0 : w.grownBy W0 (Value.slice ao (xs.length + cs.flatten.length) ca).ownBlock := by rw [hW0]; exact World.grownBy_alloc w _ _
  have hM := markPart W0 base ao ca q [] xs cs.flatten h0 (by omega) hA0
  rw [List.length_nil, ← slice_piece, hW0] at hM
  have hr0 : W0.ownsRow base 22 1 (.slice po cs.length pc) cs.length (piecesV ao xs.length cs cs.length) := by rw [hW0]; exact hp.alloc _
  obtain ⟨T, hT⟩ : ∃ T, T = cs.flatten.length := ⟨_, rfl⟩
  have HT : Hid (T = cs.flatten.length) := hT
  rw [← hT]
  clear hT
  go_enter Try.func35, Try.ntmps35
  go_wp2_with fail
  refine hM.mono ?_
  rw [← hW0]
  rintro e w1 ⟨rfl, O1, g1⟩
  simp only [List.nil_append] at O1 g1
  rw [List.length_append] at O1 g1
  have hne : (Value.slice ao (xs.length + cs.flatten.length) ca).ownBlock ≠ some w.heap.size := fun e => by have := (ha.lt _ e).2; omega
  have k1 : w1.heap[w.heap.size]? = some (.cells #[.slice ao xs.length xs.length, .slice po cs.length pc] 43 (0, 0)) := (g1.block _ (Array.getElem?_eq_some_iff.1 k0).1 (fun e => hne e.symm)).trans k0
  have c1 := cell_of k1 (i := 1) rfl
  have hr1 : w1.ownsRow base 22 1 (.slice po cs.length pc) cs.length (piecesV ao xs.length cs cs.length) := World.ownsRow.kept hr0 g1 (by have := row_ne' (ha.below b0 (Nat.le_refl _)) hr0; exact this)
  have hg1 : w.grownBy w1 (Value.slice ao (xs.length + cs.flatten.length) ca).ownBlock := grown_trans hg0 g1
  have HM := hide (marksPieces w1 base ao ca xs.length _ cs q h0 hq hr1 O1)
  have HG : Hid (w.grownBy w1 (Value.slice ao (xs.length + cs.flatten.length) ca).ownBlock) := hg1
  rw [← HT.out] at HM HG
  clear hM O1 g1 hr0 hr1 hg1 hg0 hA0 k0 k1 hne b0 hW0 ha hp
  go_wp2_with fail
  refine HM.out.mono ?_
  rintro e w2 ⟨rfl, O2, r2, g2⟩
  have HF := hide (And.intro O2 (And.intro r2 (grown_trans HG.out g2)))
  clear O2 r2 g2 HM
  go_wp2
  go_ret
  exact ⟨rfl, HF.out⟩

set_option maxHeartbeats 1000000 in
theorem heldPD (w : World) (ao : Option Addr) (ca : Nat) (pv : Value) (xs : List Int) (cs : List (List Int)) (q : Int) (h0 : 0 ≤ q) (hq : q + xs.length + cs.flatten.length ≤ 4611686018427387904)
    (hp : RdS w pv (piecesV ao xs.length cs cs.length)) (ha : RdA w (.slice ao (xs.length + cs.flatten.length) ca) (marks q (xs.length + cs.flatten.length))) :
    Calls Try.prog 37 #[.agg #[.slice ao xs.length xs.length, pv], .int .i64 q] w fun e w' => e = .returned (.int .i64 (q + xs.length + cs.flatten.length)) ∧ Below w.heap.size w w' := by
  have HP : Hid (RdS w pv (piecesV ao xs.length cs cs.length)) := hp
  have HA : Hid (RdA w (.slice ao (xs.length + cs.flatten.length) ca) (marks q (xs.length + cs.flatten.length))) := ha
  obtain ⟨po, pc, hpv, _⟩ := hp
  rw [piecesV_length] at hpv
  subst hpv
  obtain ⟨W0, hW0⟩ : ∃ W0, W0 = w.alloc (.cells #[.slice ao xs.length xs.length, .slice po cs.length pc] 43) := ⟨_, rfl⟩
  have b0 : Below w.heap.size w W0 := by rw [hW0]; exact (Below.refl _ _).alloc (Nat.le_refl _) _
  have HB : Hid (Below w.heap.size w (w.alloc (.cells #[.slice ao xs.length xs.length, .slice po cs.length pc] 43))) := by rw [← hW0]; exact b0
  have hA0 := HA.out.below b0 (Nat.le_refl _)
  have hA1 : RdA W0 (.slice ao (marks q (xs.length + cs.flatten.length)).length ca) (marks q (xs.length + cs.flatten.length)) := by rw [marks_length]; exact hA0
  have hP := piece_rd hA1 (b := 0) (e := xs.length) (by omega) (by rw [marks_length]; omega)
  rw [marks_cut q _ 0 xs.length (by omega) (by omega), Nat.sub_zero, show q + ((0 : Nat) : Int) = q by omega, show xs.length = 0 + xs.length by omega, ← slice_piece, show 0 + xs.length = xs.length by omega] at hP
  have H1 := hide (held_same W0 _ q xs.length h0 (by omega) hP.1)
  have H2 := hide (heldsPieces W0 ao ca xs.length _ cs q h0 hq (HP.out.below b0 (Nat.le_refl _)) hA0)
  rw [hW0] at H1 H2
  clear hP hA0 hA1 b0 hW0 ha HA HP
  generalize cs.flatten.length = T at H2 hq ⊢
  have hn1 : ¬ q + (xs.length : Int) < 0 := by omega
  have hn2 : ¬ q + (xs.length : Int) + T < 0 := by omega
  go_enter Try.func37, Try.ntmps37
  go_wp2_with fail
  refine H1.out.mono ?_
  rintro e w1 ⟨rfl, hw1⟩
  subst hw1
  go_wp2_with fail
  refine H2.out.mono ?_
  rintro e w1 ⟨rfl, hw1⟩
  subst hw1
  go_wp2
  go_ret
  exact ⟨rfl, HB.out⟩

theorem acts_lt {w : World} {base : Nat} {v : Value} {al : List Act4} {us : List Value} (h : OwnActs w base v al us) (hv : ∀ k, v.ownBlock = some k → base ≤ k ∧ k < w.heap.size) : ∀ u ∈ (v :: us), ∀ k, u.ownBlock = some k → base ≤ k ∧ k < w.heap.size := by
  intro u hu k hk
  rcases List.mem_cons.1 hu with rfl | hu
  · exact hv k hk
  · obtain ⟨j, hj, rfl⟩ := List.getElem_of_mem hu
    have hj' : j < al.length := by rw [← h.len]; exact hj
    have := h.each j hj'
    have e : us.getD j (.slice none 0 0) = us[j] := by simp [List.getD_eq_getElem?_getD, hj]
    rw [e] at this
    exact this.lt k hk
theorem touch_row {us : List Value} {w w' : World} {hi : Nat} (h : TouchV us w w') (hlt : ∀ u ∈ us, ∀ k, u.ownBlock = some k → k < hi) {base e n : Nat} {v : Value} {xs : List Value} (hb : hi ≤ base) (ho : w.ownsRow base e 1 v n xs) : w'.ownsRow base e 1 v n xs := by
  obtain ⟨h1, h2 | ⟨g, cap, cur, rfl, hbg, hg, r⟩⟩ := ho
  · exact ⟨h1, .inl h2⟩
  · exact ⟨h1, .inr ⟨g, cap, cur, rfl, hbg, (h.block g (Array.getElem?_eq_some_iff.1 hg).1 (fun u hu e => by have := hlt u hu g e; omega)).trans hg, r⟩⟩
theorem row_kept {w w' : World} {b1 b2 e1 e2 n1 n2 : Nat} {v1 v2 : Value} {xs ys : List Value} (h : w.ownsRow b1 e1 1 v1 n1 xs) (g : w.ownsRow b2 e2 1 v2 n2 ys) (hg : w.grownBy w' v2.ownBlock) (hne : e1 ≠ e2) : w'.ownsRow b1 e1 1 v1 n1 xs := by
  refine World.ownsRow.kept h hg ?_
  cases hv : v1.ownBlock with
  | none => exact .inl rfl
  | some k =>
    refine .inr fun e => ?_
    obtain ⟨c1, k1⟩ := own_typed h hv
    obtain ⟨c2, k2⟩ := own_typed g e.symm
    rw [k1] at k2
    simp only [Option.some.injEq, Obj.cells.injEq] at k2
    exact hne k2.2.1
theorem row_below {w w' : World} {base e B n : Nat} {a : Value} {us : List Value} (h : w.ownsRow base e 1 a n us) (hb : Below B w w') (hB : w.heap.size ≤ B) : w'.ownsRow base e 1 a n us := by
  obtain ⟨h1, h2 | ⟨g, cap, cur, rfl, hbg, hg, r⟩⟩ := h
  · exact ⟨h1, .inl h2⟩
  · exact ⟨h1, .inr ⟨g, cap, cur, rfl, hbg, (hb.block g (by have := (Array.getElem?_eq_some_iff.1 hg).1; omega)).trans hg, r⟩⟩

/-- What the program's answer holds, in world w. -/
structure GA (w : World) (base : Nat) (gv : Value) (codes : List Int) (ao : Option Addr) (ca : Nat) (pv : Value) (xs : List Int) (cs : List (List Int)) : Prop where
  codes : w.ownsRow base 3 1 gv codes.length (codes.map (Value.int .i64))
  row : w.ownsRow base 22 1 pv cs.length (piecesV ao xs.length cs cs.length)
  all : Own w base (.slice ao (xs ++ cs.flatten).length ca) (xs ++ cs.flatten)
theorem GA.below {w w' : World} {base B : Nat} {gv : Value} {codes : List Int} {ao : Option Addr} {ca : Nat} {pv : Value} {xs : List Int} {cs : List (List Int)} (h : GA w base gv codes ao ca pv xs cs) (hb : Below B w w') (hB : w.heap.size ≤ B) : GA w' base gv codes ao ca pv xs cs :=
  ⟨row_below h.codes hb hB, row_below h.row hb hB, h.all.below hb hB⟩
theorem GA.disk {w : World} {base : Nat} {gv : Value} {codes : List Int} {ao : Option Addr} {ca : Nat} {pv : Value} {xs : List Int} {cs : List (List Int)} (h : GA w base gv codes ao ca pv xs cs) : RdA w (.slice ao xs.length xs.length) xs ∧ RdS w pv (piecesV ao xs.length cs cs.length) ∧ Texts w (piecesV ao xs.length cs cs.length) cs :=
  ⟨(pieces_texts (Own.rdA h.all)).1, row_rd h.row (piecesV_length _ _ _ _), (pieces_texts (Own.rdA h.all)).2⟩

set_option maxRecDepth 20000 in
set_option maxHeartbeats 8000000 in
theorem walk (w : World) (v : Value) (al : List Act4) (hv : RdActs w v al) (hk : ∀ a ∈ al, a.keep ≤ 9223372036854775807 ∧ a.torn ≤ 9223372036854775807) :
    Calls Try.prog 7 #[v] w fun e w' => e = .returned (.bool true) ∧ Below w.heap.size w w' := by
  have HS : Hid (RdActs w v al) := hv
  obtain ⟨a0, c0, rfl, _⟩ := hv
  obtain ⟨S, hS⟩ : ∃ S, S = sumTo al al.length := ⟨_, rfl⟩
  have HSum : Hid (S = sumTo al al.length) := hS
  have hC := szActS_any w _ al 1048576 (by omega) (by omega) HS.out
  rw [← hS] at hC
  clear hS
  have hsm := runA_small al
  obtain ⟨codes, xs, cs, C, hR⟩ : ∃ codes xs cs C, runA al = (codes, xs, cs, C) := ⟨_, _, _, _, rfl⟩
  rw [hR] at hsm
  simp only at hsm
  obtain ⟨T, hT⟩ : ∃ T, T = cs.flatten.length := ⟨_, rfl⟩
  have HT : Hid (T = cs.flatten.length) := hT
  rw [← hT] at hsm
  clear hT
  have hcl : codes.length ≤ 200 := hsm.1
  have hxT : xs.length + T ≤ 8192 := hsm.2
  clear hsm
  have hneC : (C != C) = false := by simp
  go_enter Try.func7, Try.ntmps7
  go_wp2_with fail
  refine hC.mono ?_
  rintro e w1 ⟨⟨r, rfl, hr⟩, b1⟩
  clear hC
  rcases hr with hr | ⟨hr, hsum⟩
  · go_wp2
    go_ret
    exact ⟨rfl, b1⟩
  have hr' : ¬ r < 0 := by omega
  have hyb : al.length + S ≤ 1048576 := by omega
  clear hsum
  have hfit : ∀ a ∈ al, Fit a := fun a ha => by
    obtain ⟨j, hj, rfl⟩ := List.getElem_of_mem ha
    have h1 := each_le hj
    have e : al.getD j ⟨0, 0, 0, []⟩ = al[j] := by simp [List.getD_eq_getElem?_getD, hj]
    rw [e, ← HSum.out] at h1
    exact ⟨by omega, (hk _ ha).1, (hk _ ha).2⟩
  clear hk
  have HTo : Hid (∀ wx, Below w.heap.size w wx → Calls Try.prog 28 #[.slice a0 al.length c0] wx fun e w' => ∃ o c us, e = .returned (.slice o al.length c) ∧ OwnActs w' wx.heap.size (.slice o al.length c) al us ∧ Below wx.heap.size wx w' ∧ ∀ k, (Value.slice o al.length c).ownBlock = some k → wx.heap.size ≤ k ∧ k < w'.heap.size) := fun wx hb => by
    refine (toActS_own wx _ al (HS.out.below hb (Nat.le_refl _)) (by rw [← HSum.out]; omega)).mono ?_
    rintro e w' ⟨v', rfl, us, hO, hb', hv'⟩
    obtain ⟨o, c, rfl, _⟩ := hO.row
    exact ⟨o, c, us, rfl, hO, hb', hv'⟩
  have HSpec : Hid (∀ wx v, RdActs wx v al → Calls Try.prog 27 #[v] wx fun e w' => ∃ cv so sl sc qo qc us, e = .returned (.tuple #[cv, .agg #[.slice so sl sc, .slice qo us.length qc], .int .i64 C]) ∧ w'.ownsRow wx.heap.size 3 1 cv codes.length (codes.map (Value.int .i64)) ∧ DiskRd w' (.slice so sl sc) (.slice qo us.length qc) xs us cs ∧ Below wx.heap.size wx w') := fun wx v h => by
    have := specRun wx v al h hfit
    rw [hR] at this
    exact this
  have HImpl : Hid (∀ wx v, RdActs wx v al → Calls Try.prog 29 #[v] wx fun e w' => ∃ gv ao ca po pc, e = .returned (.tuple #[gv, .agg #[.slice ao xs.length xs.length, .slice po cs.length pc], .int .i64 C]) ∧ GA w' wx.heap.size gv codes ao ca (.slice po cs.length pc) xs cs ∧ Below wx.heap.size wx w') := fun wx v h => by
    have := implRun wx v al h hfit
    rw [hR] at this
    refine this.mono ?_
    rintro e w' ⟨gv, ao, ca, pv, rfl, h1, h2, h3, h4⟩
    simp only at h1 h2 h3 ⊢
    obtain ⟨po, pc, hpv, _⟩ := row_rd h2 (piecesV_length _ _ _ _)
    rw [piecesV_length] at hpv
    subst hpv
    exact ⟨gv, ao, ca, po, pc, rfl, ⟨h1, h2, h3⟩, h4⟩
  clear hfit hR
  have s1 := b1.size
  go_wp2_with fail
  refine (HTo.out w1 b1).mono ?_
  rintro e w2 ⟨o2, c2, us2, rfl, O2, b2, _⟩
  have s2 := b2.size
  go_wp2_with fail
  refine (HSpec.out w2 _ O2.rd).mono ?_
  rintro e w3 ⟨cv, so, sl, sc, qo, qc, usW, rfl, OC, OD, b3⟩
  have s3 := b3.size
  obtain ⟨W3, hW3⟩ : ∃ W3, W3 = w3.alloc (.cells #[.slice so sl sc, .slice qo usW.length qc] 43) := ⟨_, rfl⟩
  have b3' : Below w3.heap.size w3 W3 := by rw [hW3]; exact (Below.refl _ _).alloc (Nat.le_refl _) _
  have k3 : W3.heap[w3.heap.size]? = some (.cells #[.slice so sl sc, .slice qo usW.length qc] 43 (0, 0)) := by rw [hW3]; exact heap_alloc_new w3 _
  have s3' : W3.heap.size = w3.heap.size + 1 := by rw [hW3]; simp
  have B3 : Below w.heap.size w W3 := ((b1.trans (b2.mono s1)).trans (b3.mono (by omega))).trans (b3'.mono (by omega))
  have HW3 : Hid (∀ wx, Below W3.heap.size W3 wx → (RdN wx cv codes ∧ DiskRd wx (.slice so sl sc) (.slice qo usW.length qc) xs usW cs) ∧ wx.cell? ⟨w3.heap.size, 0, none⟩ = some (.slice so sl sc) ∧ wx.cell? ⟨w3.heap.size, 1, none⟩ = some (.slice qo usW.length qc) ∧ Below w.heap.size w wx) := fun wx hb => by
    have hb3 : Below w3.heap.size w3 wx := b3'.trans (hb.mono (by omega))
    have k := kept hb k3 (Nat.le_refl _)
    exact ⟨⟨(OwnN.rd (base := w2.heap.size) (row_below OC hb3 (Nat.le_refl _))), OD.below hb3 (Nat.le_refl _)⟩, cell_of k rfl, cell_of k rfl, B3.trans (hb.mono (by omega))⟩
  have hTo3 := HTo.out W3 B3
  rw [hW3] at hTo3
  clear OC OD O2 b2 b3 b1 k3
  go_wp2_with fail
  refine hTo3.mono ?_
  rw [← hW3]
  rintro e w4 ⟨o4, c4, us4, rfl, O4, b4, v4⟩
  have s4 := b4.size
  clear hTo3 hW3
  go_wp2_with fail
  refine (HImpl.out w4 _ O4.rd).mono ?_
  rintro e w5 ⟨gv, ao, ca, po, pc, rfl, G5, b5⟩
  have s5 := b5.size
  obtain ⟨W5, hW5⟩ : ∃ W5, W5 = w5.alloc (.cells #[.slice ao xs.length xs.length, .slice po cs.length pc] 43) := ⟨_, rfl⟩
  have b5' : Below w5.heap.size w5 W5 := by rw [hW5]; exact (Below.refl _ _).alloc (Nat.le_refl _) _
  have k5 : W5.heap[w5.heap.size]? = some (.cells #[.slice ao xs.length xs.length, .slice po cs.length pc] 43 (0, 0)) := by rw [hW5]; exact heap_alloc_new w5 _
  have s5' : W5.heap.size = w5.heap.size + 1 := by rw [hW5]; simp
  have G5' := G5.below b5' (Nat.le_refl _)
  have BW5 : Below W3.heap.size W3 W5 := (b4.trans (b5.mono s4)).trans (b5'.mono (by omega))
  have b45 : Below w4.heap.size w4 W5 := b5.trans (b5'.mono s5)
  have HX4 : Hid (OwnActs w4 W3.heap.size (.slice o4 al.length c4) al us4 ∧ ∀ k, (Value.slice o4 al.length c4).ownBlock = some k → W3.heap.size ≤ k ∧ k < w4.heap.size) := ⟨O4, v4⟩
  obtain ⟨⟨n5, d5⟩, x50, x51, _⟩ := HW3.out W5 BW5
  have z50 := cell_of k5 (i := 0) rfl
  have z51 := cell_of k5 (i := 1) rfl
  have hE1 := eqInts_same W5 gv cv codes (OwnN.rd (base := w4.heap.size) G5'.codes) n5
  have HEq : Hid (∀ wx, Below W3.heap.size W3 wx → GA wx w4.heap.size gv codes ao ca (.slice po cs.length pc) xs cs → Calls Try.prog 31 #[.agg #[.slice ao xs.length xs.length, .slice po cs.length pc], .agg #[.slice so sl sc, .slice qo usW.length qc]] wx fun e w' => e = .returned (.bool true) ∧ Below wx.heap.size wx w') := fun wx hb hG =>
    eqDisk_same wx _ _ _ _ xs _ usW cs hG.disk.1 hG.disk.2.1 hG.disk.2.2 (HW3.out wx hb).1.2.synced (HW3.out wx hb).1.2.writes (HW3.out wx hb).1.2.texts
  have HG5 : Hid (GA W5 w4.heap.size gv codes ao ca (.slice po cs.length pc) xs cs) := G5'
  have HBW5 : Hid (Below W3.heap.size W3 W5) := BW5
  have HK5 : Hid (W5.heap[w5.heap.size]? = some (.cells #[.slice ao xs.length xs.length, .slice po cs.length pc] 43 (0, 0))) := k5
  rw [hW5] at hE1 x50 x51 z50 z51
  clear G5 G5' b5 b5' b4 O4 v4 n5 d5 k5
  go_wp2_with fail
  refine hE1.mono ?_
  rw [← hW5]
  rintro e w6 ⟨rfl, n6, rfl⟩
  rw [← hW5] at x50 x51 z50 z51
  clear hE1 hW5
  have BD6 : Below W5.heap.size W5 (W5.drewN n6) := bdrew (Below.refl _ _) n6
  go_wp2_with fail
  refine (HEq.out (W5.drewN n6) (HBW5.out.trans (BD6.mono HBW5.out.size)) (HG5.out.below BD6 (Nat.le_refl _))).mono ?_
  rintro e w7 ⟨rfl, b7⟩
  have B57 : Below W5.heap.size W5 w7 := BD6.trans b7
  have HB7 : Hid (Below W3.heap.size W3 w7) := HBW5.out.trans (B57.mono HBW5.out.size)
  have s7 := B57.size
  have HG7 : Hid (GA w7 w4.heap.size gv codes ao ca (.slice po cs.length pc) xs cs) := HG5.out.below B57 (Nat.le_refl _)
  have HK7 : Hid (w7.heap[w5.heap.size]? = some (.cells #[.slice ao xs.length xs.length, .slice po cs.length pc] 43 (0, 0))) := kept B57 HK5.out (Nat.le_refl _)
  have HX7 : Hid (OwnActs w7 W3.heap.size (.slice o4 al.length c4) al us4) := HX4.out.1.below (b45.trans (B57.mono (by omega))) (Nat.le_refl _)
  clear B57 b7 BD6 HK5 HG5 HBW5 BW5 b45 x50 x51 z50 z51
  obtain ⟨_, _, _, Bw7⟩ := HW3.out w7 HB7.out
  go_wp2_with fail
  refine (HTo.out w7 Bw7).mono ?_
  rintro e w8 ⟨o8, c8, us8, rfl, O8, b8, _⟩
  have s8 := b8.size
  go_wp2_with fail
  refine (eqActS_same w8 _ _ al (HX7.out.below b8 (Nat.le_refl _)).rd O8.rd).mono ?_
  rintro e w9 ⟨rfl, b9⟩
  have B79 : Below w7.heap.size w7 w9 := b8.trans (b9.mono s8)
  have s9 := B79.size
  have HB9 : Hid (Below W3.heap.size W3 w9) := HB7.out.trans (B79.mono (by have := HB7.out.size; omega))
  have HG9 : Hid (GA w9 w4.heap.size gv codes ao ca (.slice po cs.length pc) xs cs) := HG7.out.below B79 (Nat.le_refl _)
  have HK9 : Hid (w9.heap[w5.heap.size]? = some (.cells #[.slice ao xs.length xs.length, .slice po cs.length pc] 43 (0, 0))) := kept B79 HK7.out (Nat.le_refl _)
  have X9 := HX7.out.below B79 (Nat.le_refl _)
  clear O8 b8 b9 B79 HG7 HK7 HX7 Bw7
  have hmq : aAt 1 al al.length ≤ 4611686018427387904 := by unfold aAt; rw [← HSum.out]; omega
  have hM0 : 0 ≤ aAt 1 al al.length := by unfold aAt; omega
  have hMk := markActS_own w9 W3.heap.size _ al us4 1 (by omega) hmq X9
  generalize aAt 1 al al.length = M at hMk hM0
  clear hmq X9
  have hnk : ¬ M < 0 := by omega
  go_wp2_with fail
  refine hMk.mono ?_
  rintro e w10 ⟨rfl, t10⟩
  clear hMk
  have hlt4 := acts_lt HX4.out.1 HX4.out.2
  have s10 := t10.size
  have HB10 : Hid (Below W3.heap.size W3 w10) := HB9.out.trans (t10.below (by have := HB9.out.size; omega) (fun u hu k hk => (hlt4 u hu k hk).1))
  have G10 : GA w10 w4.heap.size gv codes ao ca (.slice po cs.length pc) xs cs :=
    ⟨touch_row t10 (fun u hu k hk => (hlt4 u hu k hk).2) (Nat.le_refl _) HG9.out.codes, touch_row t10 (fun u hu k hk => (hlt4 u hu k hk).2) (Nat.le_refl _) HG9.out.row, ⟨HG9.out.all.1, touch_row t10 (fun u hu k hk => (hlt4 u hu k hk).2) (Nat.le_refl _) HG9.out.all.2⟩⟩
  have K10 : w10.heap[w5.heap.size]? = some (.cells #[.slice ao xs.length xs.length, .slice po cs.length pc] 43 (0, 0)) :=
    (t10.block _ (Array.getElem?_eq_some_iff.1 HK9.out).1 (fun u hu e => by have := (hlt4 u hu _ e).2; omega)).trans HK9.out
  obtain ⟨⟨n10, d10⟩, x0, x1, _⟩ := HW3.out w10 HB10.out
  have z0 := cell_of K10 (i := 0) rfl
  have z1 := cell_of K10 (i := 1) rfl
  have HG10 : Hid (GA w10 w4.heap.size gv codes ao ca (.slice po cs.length pc) xs cs) := G10
  have HK10 : Hid (w10.heap[w5.heap.size]? = some (.cells #[.slice ao xs.length xs.length, .slice po cs.length pc] 43 (0, 0))) := K10
  have hE2 := hide (eqInts_same w10 gv cv codes (OwnN.rd (base := w4.heap.size) G10.codes) n10)
  clear t10 hlt4 G10 K10 n10 d10 HG9 HK9 HB9
  go_wp2_with fail
  refine hE2.out.mono ?_
  rintro e w11 ⟨rfl, n11, rfl⟩
  have BD11 : Below w10.heap.size w10 (w10.drewN n11) := bdrew (Below.refl _ _) n11
  have hE3 := HEq.out (w10.drewN n11) (HB10.out.trans (BD11.mono (by have := HB10.out.size; omega))) (HG10.out.below BD11 (Nat.le_refl _))
  clear hE2
  go_wp2_with fail
  refine hE3.mono ?_
  rintro e w12 ⟨rfl, b12⟩
  have B12' : Below w10.heap.size w10 w12 := BD11.trans b12
  have s12 := B12'.size
  have HB12 : Hid (Below W3.heap.size W3 w12) := HB10.out.trans (B12'.mono (by have := HB10.out.size; omega))
  have G12 := HG10.out.below B12' (Nat.le_refl _)
  have K12 := kept B12' HK10.out (Nat.le_refl _)
  clear hE3 b12 BD11 B12' HG10 HK10 HB10 x0 x1 z0 z1
  have hMi := hide (markInts_own w12 w4.heap.size gv 1 codes (by omega) (by omega) G12.codes)
  go_wp2_with fail
  refine hMi.out.mono ?_
  rintro e w13 ⟨rfl, N13, g13⟩
  have s13 := g13.size
  have hgl : ∀ k, gv.ownBlock = some k → w4.heap.size ≤ k := fun k hk => (World.ownsRow.lt G12.codes k hk).1
  have HB13 : Hid (Below W3.heap.size W3 w13) := HB12.out.grown g13 (by have := HB12.out.size; omega) (fun k hk => by have := hgl k hk; omega)
  have R13 := row_kept G12.row G12.codes g13 (by decide)
  have A13 : Own w13 w4.heap.size (.slice ao (xs ++ cs.flatten).length ca) (xs ++ cs.flatten) := ⟨G12.all.1, row_kept G12.all.2 G12.codes g13 (by decide)⟩
  have hne5 : gv.ownBlock ≠ some w5.heap.size := own_other G12.codes K12 (by decide)
  have K13 := (g13.block _ (Array.getElem?_eq_some_iff.1 K12).1 (fun e => hne5 e.symm)).trans K12
  have z130 := cell_of K13 (i := 0) rfl
  have z131 := cell_of K13 (i := 1) rfl
  have HK13 : Hid (w13.heap[w5.heap.size]? = some (.cells #[.slice ao xs.length xs.length, .slice po cs.length pc] 43 (0, 0))) := K13
  have hMd := markPD w13 w4.heap.size ao ca _ xs cs (1 + codes.length) (by omega) (by rw [← HT.out]; omega) R13 A13
  rw [← HT.out] at hMd
  have HMd := hide hMd
  have HNN : Hid (w13.ownsRow w4.heap.size 3 1 gv (nums 1 codes.length).length ((nums 1 codes.length).map (Value.int .i64)) ∧ Own w13 w4.heap.size (.slice ao (xs ++ cs.flatten).length ca) (xs ++ cs.flatten)) := ⟨N13, A13⟩
  clear hMi hMd N13 g13 R13 A13 K12 G12 K13 hne5 hgl
  go_wp2_with fail
  refine HMd.out.mono ?_
  rintro e w14 ⟨rfl, A14, R14, g14⟩
  have s14 := g14.size
  have hal : ∀ k, (Value.slice ao (xs.length + T) ca).ownBlock = some k → w4.heap.size ≤ k := fun k hk => (HNN.out.2.lt k (by rw [List.length_append, ← HT.out]; exact hk)).1
  have HB14 : Hid (Below W3.heap.size W3 w14) := HB13.out.grown g14 (by have := HB13.out.size; omega) (fun k hk => by have := hal k hk; omega)
  have N14 : w14.ownsRow w4.heap.size 3 1 gv (nums 1 codes.length).length ((nums 1 codes.length).map (Value.int .i64)) := by
    have hA := HNN.out.2
    rw [List.length_append, ← HT.out] at hA
    exact row_kept HNN.out.1 hA.2 g14 (by decide)
  have hne5 : (Value.slice ao (xs.length + T) ca).ownBlock ≠ some w5.heap.size := by
    have hA := HNN.out.2
    rw [List.length_append, ← HT.out] at hA
    exact own_other hA.2 HK13.out (by decide)
  have K14 := (g14.block _ (Array.getElem?_eq_some_iff.1 HK13.out).1 (fun e => hne5 e.symm)).trans HK13.out
  have HHeldI : Hid (∀ wx, Below w14.heap.size w14 wx → Calls Try.prog 36 #[gv, .int .i64 1] wx fun e w' => e = .returned (.int .i64 (1 + codes.length)) ∧ w' = wx) := fun wx hb => heldInts_same wx gv 1 codes.length (by omega) (by omega) (OwnN.rd (base := w4.heap.size) (row_below N14 hb (Nat.le_refl _)))
  have HHeldD : Hid (∀ wx, Below w14.heap.size w14 wx → Calls Try.prog 37 #[.agg #[.slice ao xs.length xs.length, .slice po cs.length pc], .int .i64 (1 + codes.length)] wx fun e w' => e = .returned (.int .i64 (1 + codes.length + xs.length + T)) ∧ Below wx.heap.size wx w') := fun wx hb => by
    have := heldPD wx ao ca (.slice po cs.length pc) xs cs (1 + codes.length) (by omega) (by rw [← HT.out]; omega) ((row_rd R14 (piecesV_length _ _ _ _)).below hb (Nat.le_refl _)) (by rw [← HT.out]; exact (Own.rdA A14).below hb (Nat.le_refl _))
    rw [← HT.out] at this
    exact this
  have HZ14 : Hid (∀ wx, Below w14.heap.size w14 wx → wx.cell? ⟨w5.heap.size, 0, none⟩ = some (.slice ao xs.length xs.length) ∧ wx.cell? ⟨w5.heap.size, 1, none⟩ = some (.slice po cs.length pc)) := fun wx hb => ⟨cell_of (kept hb K14 (Nat.le_refl _)) rfl, cell_of (kept hb K14 (Nat.le_refl _)) rfl⟩
  obtain ⟨y0, y1⟩ := HZ14.out w14 (Below.refl _ _)
  have hn1 : ¬ (1 : Int) + codes.length < 0 := by omega
  have hn2 : ¬ (1 : Int) + codes.length + xs.length + T < 0 := by omega
  have hne2 : ((1 : Int) + codes.length + xs.length + T != (1 : Int) + codes.length + xs.length + T) = false := by simp
  clear A14 R14 g14 N14 K14 hne5 hal HNN HMd HK13 HB13 z130 z131
  go_wp2_with fail
  refine (HHeldI.out _ (Below.refl _ _)).mono ?_
  rintro e w15 ⟨rfl, hw15⟩
  have hw15' := hw15.symm
  subst hw15'
  go_wp2_with fail
  refine (HHeldD.out w14 (Below.refl _ _)).mono ?_
  rintro e w16 ⟨rfl, b16⟩
  have s16 := b16.size
  have HB16 : Hid (Below W3.heap.size W3 w16) := HB14.out.trans (b16.mono (by have := HB14.out.size; omega))
  obtain ⟨_, _, _, Bw16⟩ := HW3.out w16 HB16.out
  clear y0 y1
  go_wp2_with fail
  refine (HTo.out w16 Bw16).mono ?_
  rintro e w17 ⟨o17, c17, us17, rfl, O17, b17, _⟩
  have s17 := b17.size
  go_wp2_with fail
  refine (HImpl.out w17 _ O17.rd).mono ?_
  rintro e w18 ⟨hv8, ho, hca, hpo, hpc, rfl, G18, b18⟩
  have s18 := b18.size
  obtain ⟨W18, hW18⟩ : ∃ W18, W18 = w18.alloc (.cells #[.slice ho xs.length xs.length, .slice hpo cs.length hpc] 43) := ⟨_, rfl⟩
  have b18' : Below w18.heap.size w18 W18 := by rw [hW18]; exact (Below.refl _ _).alloc (Nat.le_refl _) _
  have k18 : W18.heap[w18.heap.size]? = some (.cells #[.slice ho xs.length xs.length, .slice hpo cs.length hpc] 43 (0, 0)) := by rw [hW18]; exact heap_alloc_new w18 _
  have B1418 : Below w14.heap.size w14 W18 := ((b16.trans (b17.mono s16)).trans (b18.mono (by omega))).trans (b18'.mono (by omega))
  have HB18 : Hid (Below W3.heap.size W3 W18) := HB14.out.trans (B1418.mono (by have := HB14.out.size; omega))
  have HB1418 : Hid (Below w14.heap.size w14 W18) := B1418
  have G18' := G18.below b18' (Nat.le_refl _)
  obtain ⟨⟨n18, d18⟩, x180, x181, _⟩ := HW3.out W18 HB18.out
  have z180 := cell_of k18 (i := 0) rfl
  have z181 := cell_of k18 (i := 1) rfl
  have hE4 := eqInts_same W18 hv8 cv codes (OwnN.rd (base := w17.heap.size) G18'.codes) n18
  have HG18 : Hid (GA W18 w17.heap.size hv8 codes ho hca (.slice hpo cs.length hpc) xs cs) := G18'
  rw [hW18] at hE4 x180 x181 z180 z181
  clear O17 b17 b18 b18' G18 G18' k18 n18 d18 b16 B1418
  go_wp2_with fail
  refine hE4.mono ?_
  rw [← hW18]
  rintro e w19 ⟨rfl, n19, rfl⟩
  rw [← hW18] at x180 x181 z180 z181
  clear hE4 hW18
  have BD19 : Below W18.heap.size W18 (W18.drewN n19) := bdrew (Below.refl _ _) n19
  have hE5 : Calls Try.prog 31 #[.agg #[.slice ho xs.length xs.length, .slice hpo cs.length hpc], .agg #[.slice so sl sc, .slice qo usW.length qc]] (W18.drewN n19) fun e w' => e = .returned (.bool true) ∧ Below (W18.drewN n19).heap.size (W18.drewN n19) w' := by
    have hG := HG18.out.below BD19 (Nat.le_refl _)
    have hD := (HW3.out _ (HB18.out.trans (BD19.mono (by have := HB18.out.size; omega)))).1.2
    exact eqDisk_same _ _ _ _ _ xs _ usW cs hG.disk.1 hG.disk.2.1 hG.disk.2.2 hD.synced hD.writes hD.texts
  go_wp2_with fail
  refine hE5.mono ?_
  rintro e w20 ⟨rfl, b20⟩
  have B1820 : Below W18.heap.size W18 w20 := BD19.trans b20
  have HB20 : Hid (Below w14.heap.size w14 w20) := HB1418.out.trans (B1820.mono (by have := HB1418.out.size; omega))
  obtain ⟨y0, y1⟩ := HZ14.out w20 HB20.out
  clear hE5 b20 BD19 B1820 x180 x181 z180 z181 HG18
  go_wp2_with fail
  refine (HHeldI.out _ HB20.out).mono ?_
  rintro e w21 ⟨rfl, hw21⟩
  have hw21' := hw21.symm
  subst hw21'
  go_wp2_with fail
  refine (HHeldD.out w20 HB20.out).mono ?_
  rintro e w22 ⟨rfl, b22⟩
  have BF := (HW3.out w22 (HB14.out.trans ((HB20.out.trans (b22.mono HB20.out.size)).mono (by have := HB14.out.size; omega)))).2.2.2
  go_wp2
  go_ret
  exact ⟨rfl, BF⟩

set_option maxRecDepth 100000 in
theorem lifted (os : Os) (started : os.Started) (H : Type) (enc : TypeId × Value → H) :
    ReturnsInHanded {} Try.checked os 7 .any (Rows.fnExactDiskRunSpec.pre6 enc Try.prog Try.f7 Rows.fnExactDiskRunRow.domain false) (Rows.fnExactDiskRunSpec.post enc Try.prog Try.f7 false true false false) := by
  refine returnsInHanded_of_change (C := Try.checked) own started (by kernel_rfl) Try.func7
    (ChangeSpec.witness6 (enc := enc) (C := Try.checked) false ⟨#[], #[.slice none 0 0], []⟩ 8 (by kernel_rfl) (by kernel_rfl) (by kernel_rfl) (by kernel_rfl)) ?_
  intro W base args ds gs before hval0 hW hcnd _
  have hval : ∀ (j : Nat) t v, Try.f7.params[j]? = some t → args[j]? = some v → Value.okWide Try.prog W .any base t v := hval0
  have hW' := hW
  obtain ⟨p, q, hA0, hV, rfl, hfz, hnd⟩ := hW
  have hA : DataW.TrodAll enc Try.prog W 0 (fun _ => true) true Try.f7.params.toList args.toList ds p := hA0
  rw [Try.params7] at hA hval
  obtain ⟨v0, vs0, d0, ds0, p0, q0, hargs, rfl, rfl, h0, r0⟩ := trodAll_cons hA
  obtain ⟨rfl, rfl, rfl⟩ := trodAll_nil r0
  obtain rfl : args = #[v0] := by cases args; simp_all
  obtain ⟨rfl, rfl⟩ := trodVars_none hV
  have k0 := h0
  have lt0 : ∀ x ∈ p0, x.block < W.heap.size := by obtain ⟨m, hm⟩ := k0; exact DataW.trod_lt m _ _ _ hm
  obtain ⟨al, hu, hkk⟩ : ∃ al, RdActs W v0 al ∧ ∀ a ∈ al, a.keep ≤ 9223372036854775807 ∧ a.torn ≤ 9223372036854775807 := by
    obtain ⟨a1, l1, c1, rfl⟩ := okWide_slice Try.underlying39 (hval 0 39 v0 rfl rfl)
    obtain ⟨fuel, hf⟩ := h0
    obtain ⟨v, al, hcs, h1, h2⟩ := open_acts hf
    simp [Value.cells] at hcs
    subst hcs
    exact ⟨al, h1, h2⟩
  clear hA0 hval0
  refine (walk W v0 al hu hkk).mono fun e W' ⟨he, bel⟩ => ?_
  subst he
  exact ⟨_, rfl, _, _, _, [], _, [], hW', trodAll_mk1 (shut_bool Try.underlying4 _), (trodAll_cons_mk (Below.trod laidOut (by kernel_rfl) (of_decide_eq_true (by kernel_rfl)) k0 bel lt0) trodAll_mk0), rfl, bel.frame _, fun h => by cases h⟩

theorem over : Rows.fnExactDiskRunRow.holds Try.pinned (OpenSpec.ofChange Rows.fnExactDiskRunSpec) :=
  OpenClaim.holds_of_wide 7 Try.f7 rfl rfl rfl rfl rfl rfl rfl ⟨rfl, rfl, rfl, rfl, rfl⟩ rfl rfl rfl rfl rfl (by kernel_rfl) Try.func7 (by kernel_rfl)
    (of_decide_eq_true (by kernel_rfl)) (by unfold Func.isWrapper; first | (rw [if_pos (by decide +kernel)]; kernel_rfl) | (rw [if_neg (by decide +kernel)]; exact ⟨rfl, rfl⟩))
    (fun os started H enc _ => lifted os started H enc)

/-- The statement. -/
theorem proved : Rows.FnExactDiskRunSaid := over
#print axioms proved
end Go.Proofs.Ytipcdioolafkpaf.fnExactDiskRun
