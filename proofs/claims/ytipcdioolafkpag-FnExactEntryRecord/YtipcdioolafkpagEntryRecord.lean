/- FnExactEntryRecord returns true at all records and leaves them as they were: impl's EntryRecord answers as the specification's, in memory of its own; no condition. -/
import Derived.Test.YtipcdioolafkpagImplEnt
import Derived.Test.YtipcdioolafkpagRecHelp
import Derived.Test.YtipcdioolafkpagArgRec
import Derived.OpenShut
import Derived.ShutString
import Derived.ChangeOld
namespace Go.Proofs.Ytipcdioolafkpag.fnExactEntryRecord
open Go.ChangeShapes Go.WideShapes Go.ChangeAt Go.RowKit
open Go.Proofs.Ytipcdioolafkpag.bytes Go.Proofs.Ytipcdioolafkpag.pile Go.Proofs.Ytipcdioolafkpag.put Go.Proofs.Ytipcdioolafkpag.crcs Go.Proofs.Ytipcdioolafkpag.join Go.Proofs.Ytipcdioolafkpag.frames Go.Proofs.Ytipcdioolafkpag.votes Go.Proofs.Ytipcdioolafkpag.pays Go.Proofs.Ytipcdioolafkpag.recs Go.Proofs.Ytipcdioolafkpag.steps Go.Proofs.Ytipcdioolafkpag.entries Go.Proofs.Ytipcdioolafkpag.entpays Go.Proofs.Ytipcdioolafkpag.implent Go.Proofs.Ytipcdioolafkpag.rechelp Go.Proofs.Ytipcdioolafkpag.given Go.Proofs.Ytipcdioolafkpag.givenrec
open Go.ChangeMaps (open_string shut_string)
set_option linter.unusedVariables false

theorem own : ownKnob Try.prog.godebug = none := by kernel_rfl
theorem laidOut : laidOutB Try.prog = true := by kernel_rfl

theorem own_kept' {w w' : World} {base : Nat} {v : Value} {row : Option Nat} {xs : List Int} (h : Own w base v xs) (hg : w.grownBy w' row) (hne : ∀ k, v.ownBlock = some k → row ≠ some k) : Own w' base v xs :=
  ⟨h.1, World.ownsRow.kept h.2 hg (by
    cases hv : v.ownBlock with
    | none => exact .inl rfl
    | some k => exact .inr fun e => hne k hv e.symm)⟩

set_option maxRecDepth 20000 in
set_option maxHeartbeats 4000000 in
theorem walk (w : World) (t i : Int) (u : Value) (ys : List Int) (hU : RdA w u ys) :
    Calls Try.prog 5 #[.agg #[.int .i64 t, .int .i64 i, u]] w fun e w' => e = .returned (.bool true) ∧ Below w.heap.size w w' := by
  have HS : Hid (RdA w u ys) := hU
  obtain ⟨⟨a0, c0, rfl, h1, h2, _, _⟩, _⟩ := hU
  unfold maxLen at h2
  obtain ⟨F, hF⟩ : ∃ F, F = entA t i ys := ⟨_, rfl⟩
  obtain ⟨C, hCc⟩ : ∃ C, C = entC t i ys := ⟨_, rfl⟩
  have hFl : F.length ≤ 65550 := by rw [hF]; exact ent_len t i ys
  have hneC : (C != C) = false := by simp
  obtain ⟨W0, hW0⟩ : ∃ W0, W0 = w.alloc (.cells #[.int .i64 t, .int .i64 i, .slice a0 ys.length c0] 40) := ⟨_, rfl⟩
  have b0 : Below w.heap.size w W0 := by rw [hW0]; exact (Below.refl _ _).alloc (Nat.le_refl _) _
  have sz0 : W0.heap.size = w.heap.size + 1 := by rw [hW0]; simp
  have k0 : W0.heap[w.heap.size]? = some (.cells #[.int .i64 t, .int .i64 i, .slice a0 ys.length c0] 40 (0, 0)) := by rw [hW0]; exact heap_alloc_new w _
  have HBox : Hid (∀ wx, Below W0.heap.size W0 wx → wx.cell? ⟨w.heap.size, 0, none⟩ = some (.int .i64 t) ∧ wx.cell? ⟨w.heap.size, 1, none⟩ = some (.int .i64 i) ∧ wx.cell? ⟨w.heap.size, 2, none⟩ = some (.slice a0 ys.length c0) ∧ Below w.heap.size w wx) := fun wx hb => by
    have k := (hb.block w.heap.size (by omega)).trans k0
    exact ⟨cell_of k rfl, cell_of k rfl, cell_of k rfl, b0.trans (hb.mono (by omega))⟩
  have hC := szRec_any W0 t i _ ys 1048576 (by omega) (by omega) (HS.out.below b0 (Nat.le_refl _))
  rw [hW0] at hC
  have HSpec : Hid (∀ wx v, RdA wx v ys → Calls Try.prog 22 #[.agg #[.int .i64 t, .int .i64 i, v]] wx fun e w' => ∃ v, e = .returned (.tuple #[v, .int .i64 C]) ∧ Own w' wx.heap.size v F ∧ Below wx.heap.size wx w') := fun wx v hv => by rw [hF, hCc]; exact specEntry wx t i v ys hv
  have HImpl : Hid (∀ wx v, RdA wx v ys → Calls Try.prog 24 #[.agg #[.int .i64 t, .int .i64 i, v]] wx fun e w' => ∃ v, e = .returned (.tuple #[v, .int .i64 C]) ∧ Own w' wx.heap.size v F ∧ Below wx.heap.size wx w') := fun wx v hv => by rw [hF, hCc]; exact implEntry wx t i v ys hv
  clear hF hCc
  go_enter Try.func5, Try.ntmps5
  go_wp2_with fail
  refine hC.mono ?_
  rw [← hW0]
  rintro e w1 ⟨⟨r, rfl, hr⟩, b1⟩
  clear hC hW0 k0
  rcases hr with hr | ⟨hr, hsum⟩
  · have HBz := (HBox.out w1 b1).2.2.2
    go_wp2
    go_ret
    exact ⟨rfl, HBz⟩
  have hr' : ¬ r < 0 := by omega
  have hyb : ys.length ≤ 1048576 := by omega
  clear hsum
  have HTo : Hid (∀ wx, Below W0.heap.size W0 wx → Calls Try.prog 23 #[.agg #[.int .i64 t, .int .i64 i, .slice a0 ys.length c0]] wx fun e w' => ∃ o c, e = .returned (.agg #[.int .i64 t, .int .i64 i, .slice o ys.length c]) ∧ Own w' wx.heap.size (.slice o ys.length c) ys ∧ Below wx.heap.size wx w') := fun wx hb => by
    refine (toRec_own wx t i _ ys (HS.out.below (HBox.out wx hb).2.2.2 (Nat.le_refl _)) (by omega)).mono ?_
    rintro e w' ⟨v, rfl, o, c, rfl, hO, hb'⟩
    exact ⟨o, c, rfl, hO, hb'⟩
  have s1 := b1.size
  obtain ⟨x0, x1, x2, _⟩ := HBox.out w1 b1
  go_wp2_with fail
  refine (HTo.out w1 b1).mono ?_
  rintro e w2 ⟨o2, c2, rfl, O2, b2⟩
  have s2 := b2.size
  go_wp2_with fail
  refine (HSpec.out w2 _ (Own.rdA O2)).mono ?_
  rintro e w3 ⟨v0, rfl, OW, b3⟩
  have s3 := b3.size
  have B3 : Below W0.heap.size W0 w3 := (b1.trans (b2.mono s1)).trans (b3.mono (by omega))
  have HW3 : Hid (∀ wx, Below w3.heap.size w3 wx → Own wx w2.heap.size v0 F) := fun wx hb => OW.below hb (Nat.le_refl _)
  obtain ⟨x30, x31, x32, _⟩ := HBox.out w3 B3
  clear O2 b2 b3 OW b1 x0 x1 x2
  go_wp2_with fail
  refine (HTo.out w3 B3).mono ?_
  rintro e w4 ⟨o4, c4, rfl, O4, b4⟩
  have s4 := b4.size
  obtain ⟨w5, hw5⟩ : ∃ w5, w5 = w4.alloc (.cells #[.int .i64 t, .int .i64 i, .slice o4 ys.length c4] 43) := ⟨_, rfl⟩
  have b45 : Below w4.heap.size w4 w5 := by rw [hw5]; exact (Below.refl _ _).alloc (Nat.le_refl _) _
  have k5 : w5.heap[w4.heap.size]? = some (.cells #[.int .i64 t, .int .i64 i, .slice o4 ys.length c4] 43 (0, 0)) := by rw [hw5]; exact heap_alloc_new w4 _
  have s5 : w5.heap.size = w4.heap.size + 1 := by rw [hw5]; simp
  have O5 : Own w5 w3.heap.size (.slice o4 ys.length c4) ys := O4.below b45 (Nat.le_refl _)
  have hI := HImpl.out w5 _ (Own.rdA O5)
  rw [hw5] at hI
  clear x30 x31 x32
  go_wp2_with fail
  refine hI.mono ?_
  rw [← hw5]
  rintro e w6 ⟨g0, rfl, OG, b6⟩
  have s6 := b6.size
  have b36 : Below w3.heap.size w3 w6 := b4.trans ((b45.mono s4).trans (b6.mono (by omega)))
  have b46 : Below w4.heap.size w4 w6 := b45.trans (b6.mono (by omega))
  have B6 : Below W0.heap.size W0 w6 := B3.trans (b36.mono (by omega))
  have k6 : w6.heap[w4.heap.size]? = some (.cells #[.int .i64 t, .int .i64 i, .slice o4 ys.length c4] 43 (0, 0)) := (b6.block _ (by omega)).trans k5
  have HX : Hid (Own w4 w3.heap.size (.slice o4 ys.length c4) ys) := O4
  have h64 : w4.heap.size < w6.heap.size := by omega
  clear hI hw5 O5 O4 k5 s5
  go_wp2_with fail
  refine (eq_same _ _ _ F OG.rd (HW3.out _ b36).rd).mono ?_
  rintro e w7 ⟨rfl, n7, rfl⟩
  obtain ⟨y60, y61, y62, _⟩ := HBox.out w6 B6
  have z60 := cell_of k6 (i := 0) rfl
  have z61 := cell_of k6 (i := 1) rfl
  have z62 := cell_of k6 (i := 2) rfl
  have HTo10 : Hid (∀ n, Calls Try.prog 23 #[.agg #[.int .i64 t, .int .i64 i, .slice a0 ys.length c0]] (w6.drewN n) fun e w' => ∃ o c, e = .returned (.agg #[.int .i64 t, .int .i64 i, .slice o ys.length c]) ∧ Hid (Own w' w6.heap.size (.slice o ys.length c) ys ∧ Below w6.heap.size w6 w') ∧ w'.cell? ⟨w4.heap.size, 0, none⟩ = some (.int .i64 t) ∧ w'.cell? ⟨w4.heap.size, 1, none⟩ = some (.int .i64 i) ∧ w'.cell? ⟨w4.heap.size, 2, none⟩ = some (.slice o4 ys.length c4)) := fun n => by
    refine (HTo.out (w6.drewN n) (below_drew' B6 n)).mono ?_
    rintro e w' ⟨o, c, rfl, hO, hb⟩
    have hb' : Below w6.heap.size w6 w' := ⟨hb.os, hb.tape, hb.output, hb.size, hb.block⟩
    have k := (hb'.block _ h64).trans k6
    exact ⟨o, c, rfl, hide ⟨hO, hb'⟩, cell_of k rfl, cell_of k rfl, cell_of k rfl⟩
  have HEq10 : Hid (∀ w' o c, Hid (Own w' w6.heap.size (.slice o ys.length c) ys ∧ Below w6.heap.size w6 w') → Calls Try.prog 25 #[.agg #[.int .i64 t, .int .i64 i, .slice o4 ys.length c4], .agg #[.int .i64 t, .int .i64 i, .slice o ys.length c]] w' fun e w'' => e = .returned (.bool true) ∧ Hid (Below w6.heap.size w6 w'')) := fun w' o c h => by
    have hX := HX.out.below (b46.trans (h.out.2.mono (by omega))) (Nat.le_refl _)
    refine (eqRec_same w' t i _ _ ys (Own.rdA hX) (Own.rdA h.out.1)).mono ?_
    rintro e w'' ⟨rfl, hb⟩
    exact ⟨rfl, h.out.2.trans (hb.mono (by have := h.out.2.size; omega))⟩
  clear k6
  go_wp2
  go_region_law (first | (go_simp; go_at_call 23; refine (HTo10.out _).mono ?_; rintro e w8 ⟨o8, c8, rfl, H8, u80, u81, u82⟩) | (go_simp; go_at_call 25; refine (HEq10.out _ _ _ H8).mono ?_; rintro e w9 ⟨rfl, H9⟩))
  all_goals
    have b69 : Below w6.heap.size w6 w9 := H9.out
    have s9 := b69.size
    have b49 : Below w4.heap.size w4 w9 := b46.trans (b69.mono (by omega))
    have b39 : Below w3.heap.size w3 w9 := b36.trans (b69.mono (by omega))
    have X9 := HX.out.below b49 (Nat.le_refl _)
    have v90 : w9.cell? ⟨w4.heap.size, 0, none⟩ = some (.int .i64 t) := (b69.cell (by exact h64)).trans z60
    have v91 : w9.cell? ⟨w4.heap.size, 1, none⟩ = some (.int .i64 i) := (b69.cell (by exact h64)).trans z61
    have v92 : w9.cell? ⟨w4.heap.size, 2, none⟩ = some (.slice o4 ys.length c4) := (b69.cell (by exact h64)).trans z62
    have OG9 := OG.below b69 (Nat.le_refl _)
    clear H8 u80 u81 u82 HTo10 HEq10 y60 y61 y62 z60 z61 z62 H9
    go_wp2_with fail
    refine (markRec_own w9 w3.heap.size t i _ 1 ys (by omega) (by omega) X9).mono ?_
    rintro e w10 ⟨rfl, _, g10⟩
    have s10 := g10.size
    have b310 : Below w3.heap.size w3 w10 := b39.grown g10 (by omega) (fun k hk => (HX.out.lt k hk).1)
    have OG10 : Own w10 w5.heap.size g0 F := own_kept' OG9 g10 (fun k hk e => by
      have h1 := (HX.out.lt k e).2
      have h2 := (OG.lt k hk).1
      have h3 := b45.size
      omega)
    have hnk : ¬ (1 : Int) + ys.length < 0 := by omega
    clear g10 X9 OG9 v90 v91 v92
    go_wp2_with fail
    refine (eq_same _ _ _ F OG10.rd (HW3.out _ b310).rd).mono ?_
    rintro e w11 ⟨rfl, n11, rfl⟩
    go_wp2_with fail
    refine (mark_own _ w5.heap.size g0 1 F (by omega) (by omega) (by exact OG10)).mono ?_
    rintro e w12 ⟨rfl, OG12, g12'⟩
    have g12 : w10.grownBy w12 g0.ownBlock := ⟨g12'.os, g12'.tape, g12'.output, g12'.size, g12'.block⟩
    have s12 := g12.size
    have b312 : Below w3.heap.size w3 w12 := b310.grown g12 (by omega) (fun k hk => by have := (OG.lt k hk).1; have := b45.size; omega)
    have HHeld : Hid (∀ wx, Below w12.heap.size w12 wx → Calls Try.prog 20 #[g0, .int .i64 1] wx fun e w' => e = .returned (.int .i64 (1 + F.length)) ∧ w' = wx) := fun wx hb => held_same wx _ 1 F.length (by omega) (by omega) (OG12.below hb (Nat.le_refl _)).rd
    have B12 : Below W0.heap.size W0 w12 := B3.trans (b312.mono (by omega))
    obtain ⟨x20, x21, x22, _⟩ := HBox.out w12 B12
    have hn1 : ¬ (1 : Int) + F.length < 0 := by omega
    have hne2 : ((1 : Int) + F.length != (1 : Int) + F.length) = false := by simp
    clear OG10 OG12 g12 g12' b310
    go_wp2_with fail
    refine (HHeld.out _ (Below.refl _ _)).mono ?_
    rintro e w13 ⟨rfl, hw13⟩
    have hw13' := hw13.symm
    subst hw13'
    go_wp2_with fail
    refine (HTo.out w12 B12).mono ?_
    rintro e w14 ⟨o14, c14, rfl, O14, b14⟩
    have s14 := b14.size
    go_wp2_with fail
    refine (HImpl.out w14 _ (Own.rdA O14)).mono ?_
    rintro e w15 ⟨h0, rfl, OH, b15⟩
    have b1215 : Below w12.heap.size w12 w15 := b14.trans (b15.mono s14)
    have b315 : Below w3.heap.size w3 w15 := b312.trans (b1215.mono (by omega))
    have BF := (HBox.out w15 (B12.trans (b1215.mono (by omega)))).2.2.2
    clear O14 b14 b15 x20 x21 x22
    go_wp2_with fail
    refine (eq_same _ _ _ F OH.rd (HW3.out _ b315).rd).mono ?_
    rintro e w16 ⟨rfl, n16, rfl⟩
    go_wp2_with fail
    refine (HHeld.out _ (by exact below_drew' b1215 _)).mono ?_
    rintro e w17 ⟨rfl, rfl⟩
    go_wp2
    go_ret
    exact ⟨rfl, by exact below_drew' BF _⟩

set_option maxRecDepth 100000 in
theorem lifted (os : Os) (started : os.Started) (H : Type) (enc : TypeId × Value → H) :
    ReturnsInHanded {} Try.checked os 5 .any (Rows.fnExactEntryRecordSpec.pre6 enc Try.prog Try.f5 Rows.fnExactEntryRecordRow.domain false) (Rows.fnExactEntryRecordSpec.post enc Try.prog Try.f5 false true false false) := by
  refine returnsInHanded_of_change (C := Try.checked) own started (by kernel_rfl) Try.func5
    (ChangeSpec.witness6 (enc := enc) (C := Try.checked) false ⟨#[], #[.agg #[.int .i64 0, .int .i64 0, .slice none 0 0]], []⟩ 8 (by kernel_rfl) (by kernel_rfl) (by kernel_rfl) (by kernel_rfl)) ?_
  intro W base args ds gs before hval0 hW hcnd _
  have hval : ∀ (j : Nat) t v, Try.f5.params[j]? = some t → args[j]? = some v → Value.okWide Try.prog W .any base t v := hval0
  have hW' := hW
  obtain ⟨p, q, hA0, hV, rfl, hfz, hnd⟩ := hW
  have hA : DataW.TrodAll enc Try.prog W 0 (fun _ => true) true Try.f5.params.toList args.toList ds p := hA0
  rw [Try.params5] at hA hval
  obtain ⟨v0, vs0, d0, ds0, p0, q0, hargs, rfl, rfl, h0, r0⟩ := trodAll_cons hA
  obtain ⟨rfl, rfl, rfl⟩ := trodAll_nil r0
  obtain rfl : args = #[v0] := by cases args; simp_all
  obtain ⟨rfl, rfl⟩ := trodVars_none hV
  have k0 := h0
  have lt0 : ∀ x ∈ p0, x.block < W.heap.size := by obtain ⟨m, hm⟩ := k0; exact DataW.trod_lt m _ _ _ hm
  obtain ⟨t, i, u, ys, rfl, hu, _, _⟩ := open_rec (hval 0 40 v0 rfl rfl) h0
  clear hA0 hval0
  refine (walk W t i u ys hu).mono fun e W' ⟨he, bel⟩ => ?_
  subst he
  exact ⟨_, rfl, _, _, _, [], _, [], hW', trodAll_mk1 (shut_bool Try.underlying4 _), (trodAll_cons_mk (Below.trod laidOut (by kernel_rfl) (of_decide_eq_true (by kernel_rfl)) k0 bel lt0) trodAll_mk0), rfl, bel.frame _, fun h => by cases h⟩

theorem over : Rows.fnExactEntryRecordRow.holds Try.pinned (OpenSpec.ofChange Rows.fnExactEntryRecordSpec) :=
  OpenClaim.holds_of_wide 5 Try.f5 rfl rfl rfl rfl rfl rfl rfl ⟨rfl, rfl, rfl, rfl, rfl⟩ rfl rfl rfl rfl rfl (by kernel_rfl) Try.func5 (by kernel_rfl)
    (of_decide_eq_true (by kernel_rfl)) (by unfold Func.isWrapper; first | (rw [if_pos (by decide +kernel)]; kernel_rfl) | (rw [if_neg (by decide +kernel)]; exact ⟨rfl, rfl⟩))
    (fun os started H enc _ => lifted os started H enc)

/-- The statement. -/
theorem proved : Rows.FnExactEntryRecordSaid := over
#print axioms proved
end Go.Proofs.Ytipcdioolafkpag.fnExactEntryRecord
