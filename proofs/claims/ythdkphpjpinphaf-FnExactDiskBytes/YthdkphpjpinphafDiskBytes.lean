/- FnExactDiskBytes returns true at all disks and leaves them as they were: impl's DiskBytes answers as the specification's, in memory of its own; no condition. -/
import Derived.Test.YthdkphpjpinphafImplBytes
import Derived.Test.YthdkphpjpinphafArgDisk
import Derived.Deep.RegionLaw
namespace Go.Proofs.Ythdkphpjpinphaf.fnExactDiskBytes
open Go.ChangeShapes Go.WideShapes Go.ChangeAt Go.RowKit
open Go.ChangeMaps (open_string shut_string)
open Go.Proofs.Ythdkphpjpinphaf.bytes Go.Proofs.Ythdkphpjpinphaf.pile Go.Proofs.Ythdkphpjpinphaf.reader Go.Proofs.Ythdkphpjpinphaf.lists Go.Proofs.Ythdkphpjpinphaf.sizes Go.Proofs.Ythdkphpjpinphaf.marked Go.Proofs.Ythdkphpjpinphaf.given Go.Proofs.Ythdkphpjpinphaf.disks Go.Proofs.Ythdkphpjpinphaf.diskmarks Go.Proofs.Ythdkphpjpinphaf.specdisk Go.Proofs.Ythdkphpjpinphaf.tracks Go.Proofs.Ythdkphpjpinphaf.trackof Go.Proofs.Ythdkphpjpinphaf.implbytes Go.Proofs.Ythdkphpjpinphaf.givendisk
set_option linter.unusedVariables false

theorem own : ownKnob Try.prog.godebug = none := by kernel_rfl
theorem laidOut : laidOutB Try.prog = true := by kernel_rfl

theorem diskA_le (xs : List Int) (cs : List (List Int)) : (diskA xs cs).1.length ≤ 8192 := by
  by_cases h : Right xs cs
  · rw [diskA_right h]
    have := h.2
    rw [List.length_append]
    exact this
  · rw [diskA_wrong h]
    simp

set_option maxRecDepth 20000 in
set_option maxHeartbeats 4000000 in
theorem walk (w : World) (s p : Value) (xs : List Int) (us : List Value) (cs : List (List Int)) (hX : RdA w s xs) (hS : RdS w p us) (hT : Texts w us cs) :
    Calls Try.prog 8 #[.agg #[s, p]] w fun e w' => e = .returned (.bool true) ∧ Below w.heap.size w w' := by
  have HS : Hid (RdA w s xs ∧ RdS w p us ∧ Texts w us cs) := ⟨hX, hS, hT⟩
  obtain ⟨⟨a0, c0, rfl, h1, h2, _, _⟩, _⟩ := hX
  obtain ⟨a1, c1, rfl, h3, h4, _⟩ := hS
  unfold maxLen at h2 h4
  clear hT
  obtain ⟨F, C, hFe⟩ : ∃ F C, diskA xs cs = (F, C) := ⟨_, _, rfl⟩
  have hFl : F.length ≤ 8192 := by have := diskA_le xs cs; rw [hFe] at this; exact this
  obtain ⟨T, hT⟩ : ∃ T, T = cs.flatten.length := ⟨_, rfl⟩
  have HT : Hid (T = cs.flatten.length) := hT
  clear hT
  have hneC : (C != C) = false := by simp
  obtain ⟨W0, hW0⟩ : ∃ W0, W0 = w.alloc (.cells #[.slice a0 xs.length c0, .slice a1 us.length c1] 55) := ⟨_, rfl⟩
  have b0 : Below w.heap.size w W0 := by rw [hW0]; exact (Below.refl _ _).alloc (Nat.le_refl _) _
  have sz0 : W0.heap.size = w.heap.size + 1 := by rw [hW0]; simp
  have k0 : W0.heap[w.heap.size]? = some (.cells #[.slice a0 xs.length c0, .slice a1 us.length c1] 55 (0, 0)) := by rw [hW0]; exact heap_alloc_new w _
  have HBox : Hid (∀ wx, Below W0.heap.size W0 wx → wx.cell? ⟨w.heap.size, 0, none⟩ = some (.slice a0 xs.length c0) ∧ wx.cell? ⟨w.heap.size, 1, none⟩ = some (.slice a1 us.length c1) ∧ Below w.heap.size w wx) := fun wx hb => by
    have k := (hb.block w.heap.size (by omega)).trans k0
    exact ⟨cell_of k rfl, cell_of k rfl, b0.trans (hb.mono (by omega))⟩
  have hC := szDisk_any W0 _ _ xs us cs 1048576 (by omega) (by omega) (HS.out.1.below b0 (Nat.le_refl _)) (HS.out.2.1.below b0 (Nat.le_refl _)) (HS.out.2.2.below b0 (Nat.le_refl _))
  rw [hW0] at hC
  go_enter Try.func8, Try.ntmps8
  go_wp2_with fail
  refine hC.mono ?_
  rw [← hW0]
  rintro e w1 ⟨⟨r, rfl, hr⟩, b1⟩
  clear hC hW0 k0
  rcases hr with hr | ⟨hr, hsum⟩
  · have HBz := (HBox.out w1 b1).2.2
    go_wp2
    go_ret
    exact ⟨rfl, HBz⟩
  have hr' : ¬ r < 0 := by omega
  rw [← HT.out] at hsum
  have hun : us.length ≤ 1048576 := by omega
  have hTb : T ≤ 1048576 := by omega
  have hxb : xs.length ≤ 1048576 := by omega
  have HEach : Hid (∀ i, (cs.getD i []).length ≤ 281474976710656) := fun i => by
    have := flat_each (xss := cs) (i := i) (n := T) (by rw [HT.out]; exact Nat.le_refl _)
    omega
  clear hsum
  have HTo : Hid (∀ wx, Below W0.heap.size W0 wx → Calls Try.prog 40 #[.agg #[.slice a0 xs.length c0, .slice a1 us.length c1]] wx fun e w' => ∃ o c o2 c2 us', e = .returned (.agg #[.slice o xs.length c, .slice o2 us'.length c2]) ∧ DiskAt w' wx.heap.size (.slice o xs.length c) (.slice o2 us'.length c2) xs us' cs ∧ Below wx.heap.size wx w') := fun wx hb => by
    have B := (HBox.out wx hb).2.2
    refine (toDisk_own wx _ _ xs us cs (HS.out.1.below B (Nat.le_refl _)) (HS.out.2.1.below B (Nat.le_refl _)) (HS.out.2.2.below B (Nat.le_refl _)) (by omega) hun HEach.out).mono ?_
    rintro e w' ⟨v, rfl, o, n, c, o2, c2, us', rfl, hD, hb'⟩
    obtain ⟨o', c', e', _⟩ := hD.synced.rd
    simp only [Value.slice.injEq] at e'
    obtain ⟨rfl, rfl, rfl⟩ := e'
    exact ⟨o, c, o2, c2, us', rfl, hD, hb'⟩
  have HSpec : Hid (∀ (wx : World) (p0 p1 : Value) (ws : List Value) (B : Nat), DiskAt wx B p0 p1 xs ws cs → Calls Try.prog 39 #[.agg #[p0, p1]] wx fun e w' => ∃ v, e = .returned (.tuple #[v, .int .i64 C]) ∧ Own w' wx.heap.size v F ∧ Below wx.heap.size wx w') := fun wx p0 p1 ws B hD => by
    have := specBytes wx p0 p1 xs ws cs (Own.rdA hD.synced) hD.writes.rdS hD.writes.texts (by rw [← HT.out]; omega)
    rw [hFe] at this
    exact this
  have HImpl : Hid (∀ (wx : World) (p0 p1 : Value) (ws : List Value) (B : Nat), DiskAt wx B p0 p1 xs ws cs → Calls Try.prog 41 #[.agg #[p0, p1]] wx fun e w' => ∃ v, e = .returned (.tuple #[v, .int .i64 C]) ∧ Own w' wx.heap.size v F ∧ Below wx.heap.size wx w') := fun wx p0 p1 ws B hD => by
    have := implBytes wx p0 p1 xs ws cs (Own.rdA hD.synced) hD.writes.rdS hD.writes.texts (by rw [← HT.out]; omega)
    rw [hFe] at this
    exact this
  clear hFe
  have s1 := b1.size
  obtain ⟨x10, x11, _⟩ := HBox.out w1 b1
  go_wp2_with fail
  refine (HTo.out w1 b1).mono ?_
  rintro e w2 ⟨o2, n2, p2, q2, us2, rfl, D2, b2⟩
  have s2 := b2.size
  go_wp2_with fail
  refine (HSpec.out w2 _ _ _ _ D2).mono ?_
  rintro e w3 ⟨vW, rfl, OW, b3⟩
  have s3 := b3.size
  have B3 : Below W0.heap.size W0 w3 := b1.trans ((b2.mono s1).trans (b3.mono (by omega)))
  obtain ⟨x30, x31, _⟩ := HBox.out w3 B3
  have HW3 : Hid (∀ wx, Below w3.heap.size w3 wx → Own wx w2.heap.size vW F) := fun wx hb => OW.below hb (Nat.le_refl _)
  clear D2 OW b2 b3 x10 x11
  go_wp2_with fail
  refine (HTo.out w3 B3).mono ?_
  rintro e w4 ⟨o4, n4, p4, q4, us4, rfl, D4, b4⟩
  have s4 := b4.size
  obtain ⟨w5, hw5⟩ : ∃ w5, w5 = w4.alloc (.cells #[.slice o4 xs.length n4, .slice p4 us4.length q4] 43) := ⟨_, rfl⟩
  have b45 : Below w4.heap.size w4 w5 := by rw [hw5]; exact (Below.refl _ _).alloc (Nat.le_refl _) _
  have sz5 : w5.heap.size = w4.heap.size + 1 := by rw [hw5]; simp
  have k5 : w5.heap[w4.heap.size]? = some (.cells #[.slice o4 xs.length n4, .slice p4 us4.length q4] 43 (0, 0)) := by rw [hw5]; exact heap_alloc_new w4 _
  have D5 := DiskAt.below D4 b45 (Nat.le_refl _)
  have hI := HImpl.out w5 _ _ _ _ D5
  rw [hw5] at hI
  clear x30 x31
  go_wp2_with fail
  refine hI.mono ?_
  rw [← hw5]
  rintro e w6 ⟨g0, rfl, OG, b6⟩
  have s6 := b6.size
  have b36 : Below w3.heap.size w3 w6 := b4.trans ((b45.mono s4).trans (b6.mono (by omega)))
  have b46 : Below w4.heap.size w4 w6 := b45.trans (b6.mono (by omega))
  have B6 : Below W0.heap.size W0 w6 := B3.trans (b36.mono (by omega))
  have k6 : w6.heap[w4.heap.size]? = some (.cells #[.slice o4 xs.length n4, .slice p4 us4.length q4] 43 (0, 0)) := (b6.block _ (by omega)).trans k5
  have HX : Hid (DiskAt w4 w3.heap.size (.slice o4 xs.length n4) (.slice p4 us4.length q4) xs us4 cs) := D4
  clear hI hw5 D5 D4 k5
  go_wp2_with fail
  refine (eq_same _ _ _ F OG.rd (HW3.out _ b36).rd).mono ?_
  rintro e w7 ⟨rfl, n7, rfl⟩
  obtain ⟨y60, y61, _⟩ := HBox.out w6 B6
  have z60 := cell_of k6 (i := 0) rfl
  have z61 := cell_of k6 (i := 1) rfl
  have HTo10 : Hid (∀ n, Calls Try.prog 40 #[.agg #[.slice a0 xs.length c0, .slice a1 us.length c1]] (w6.drewN n) fun e w' => ∃ o c o2 c2 us', e = .returned (.agg #[.slice o xs.length c, .slice o2 us'.length c2]) ∧ Hid (DiskAt w' w6.heap.size (.slice o xs.length c) (.slice o2 us'.length c2) xs us' cs ∧ Below w6.heap.size w6 w') ∧ w'.cell? ⟨w4.heap.size, 0, none⟩ = some (.slice o4 xs.length n4) ∧ w'.cell? ⟨w4.heap.size, 1, none⟩ = some (.slice p4 us4.length q4)) := fun n => by
    refine (HTo.out (w6.drewN n) (below_drew' B6 n)).mono ?_
    rintro e w' ⟨o, c, o2, c2, us', rfl, hD, hb⟩
    have hb' : Below w6.heap.size w6 w' := ⟨hb.os, hb.tape, hb.output, hb.size, hb.block⟩
    have k := (hb'.block _ (by omega)).trans k6
    exact ⟨o, c, o2, c2, us', rfl, hide ⟨hD, hb'⟩, cell_of k rfl, cell_of k rfl⟩
  have HEq10 : Hid (∀ w' o c o2 c2 us', Hid (DiskAt w' w6.heap.size (.slice o xs.length c) (.slice o2 us'.length c2) xs us' cs ∧ Below w6.heap.size w6 w') → Calls Try.prog 31 #[.agg #[.slice o4 xs.length n4, .slice p4 us4.length q4], .agg #[.slice o xs.length c, .slice o2 us'.length c2]] w' fun e w'' => e = .returned (.bool true) ∧ Hid (Below w6.heap.size w6 w'')) := fun w' o c o2 c2 us' h => by
    have hX := DiskAt.below HX.out (b46.trans (h.out.2.mono (by omega))) (Nat.le_refl _)
    refine (eqDisk_same w' _ _ _ _ xs us4 us' cs (Own.rdA hX.synced) hX.writes.rdS hX.writes.texts (Own.rdA h.out.1.synced) h.out.1.writes.rdS h.out.1.writes.texts).mono ?_
    rintro e w'' ⟨rfl, hb⟩
    exact ⟨rfl, h.out.2.trans (hb.mono (by have := h.out.2.size; omega))⟩
  clear k6
  go_wp2
  go_region_law (first | (go_simp; go_at_call 40; refine (HTo10.out _).mono ?_; rintro e w8 ⟨o8, n8, p8, q8, us8, rfl, H8, u80, u81⟩) | (go_simp; go_at_call 31; refine (HEq10.out _ _ _ _ _ _ H8).mono ?_; rintro e w9 ⟨rfl, H9⟩))
  all_goals
    have b69 : Below w6.heap.size w6 w9 := H9.out
    have s9 := b69.size
    have b49 : Below w4.heap.size w4 w9 := b46.trans (b69.mono (by omega))
    have b39 : Below w3.heap.size w3 w9 := b36.trans (b69.mono (by omega))
    have X9 := DiskAt.below HX.out b49 (Nat.le_refl _)
    have v90 : w9.cell? ⟨w4.heap.size, 0, none⟩ = some (.slice o4 xs.length n4) := (b69.cell (by show w4.heap.size < w6.heap.size; omega)).trans z60
    have v91 : w9.cell? ⟨w4.heap.size, 1, none⟩ = some (.slice p4 us4.length q4) := (b69.cell (by show w4.heap.size < w6.heap.size; omega)).trans z61
    have OG9 := OG.below b69 (Nat.le_refl _)
    clear H8 u80 u81 HTo10 HEq10 y60 y61 z60 z61 H9
    go_wp2_with fail
    refine (markDisk_own w9 w3.heap.size _ _ xs us4 cs 1 (by omega) (by rw [← HT.out]; omega) X9).mono ?_
    rintro e w10 ⟨rfl, _, t10⟩
    rw [← HT.out]
    have s10 := t10.2.2.2.1
    have hxl : ∀ i, i < (Value.slice o4 xs.length n4 :: us4).length → ∀ k, ((Value.slice o4 xs.length n4 :: us4).getD i (.slice none 0 0)).ownBlock = some k → w3.heap.size ≤ k ∧ k < w4.heap.size := fun i hi k hk => by
      cases i with
      | zero => exact HX.out.synced.lt k hk
      | succ i => exact (HX.out.writes.pile.2.1 i (by simpa using hi)).lt k hk
    have b310 : Below w3.heap.size w3 w10 := b39.trans (t10.below (by omega) (fun i hi k hk => (hxl i hi k hk).1))
    have OG10 := t10.own OG9 (fun i hi k hk hk2 => by have h1 := (hxl i hi k hk).2; have h2 := (OG.lt k hk2).1; omega)
    have hnk : ¬ (1 : Int) + xs.length + T < 0 := by omega
    clear t10 X9 OG9 v90 v91
    go_wp2_with fail
    refine (eq_same _ _ _ F OG10.rd (HW3.out _ b310).rd).mono ?_
    rintro e w11 ⟨rfl, n11, rfl⟩
    go_wp2_with fail
    refine (mark_own _ w5.heap.size g0 1 F (by omega) (by omega) (by exact OG10)).mono ?_
    rintro e w12 ⟨rfl, OG12, g12'⟩
    have g12 : w10.grownBy w12 g0.ownBlock := ⟨g12'.os, g12'.tape, g12'.output, g12'.size, g12'.block⟩
    have s12 := g12.size
    have b312 : Below w3.heap.size w3 w12 := b310.grown g12 (by omega) (fun k hk => by have := (OG.lt k hk).1; omega)
    have HHeld : Hid (∀ wx, Below w12.heap.size w12 wx → Calls Try.prog 16 #[g0, .int .i64 1] wx fun e w' => e = .returned (.int .i64 (1 + F.length)) ∧ w' = wx) := fun wx hb => held_same wx _ 1 F.length (by omega) (by omega) (OG12.below hb (Nat.le_refl _)).rd
    have B12 : Below W0.heap.size W0 w12 := B3.trans (b312.mono (by omega))
    obtain ⟨x20, x21, _⟩ := HBox.out w12 B12
    have hn1 : ¬ (1 : Int) + F.length < 0 := by omega
    have hne2 : ((1 : Int) + F.length != (1 : Int) + F.length) = false := by simp
    clear OG10 OG12 g12 g12' b310
    go_wp2_with fail
    refine (HHeld.out _ (Below.refl _ _)).mono ?_
    rintro e w13 ⟨rfl, hw13⟩
    have hw13' := hw13.symm
    subst hw13'
    go_wp2_with fail
    refine (HTo.out w12 B12).mono ?_
    rintro e w14 ⟨o14, n14, p14, q14, us14, rfl, D14, b14⟩
    have s14 := b14.size
    go_wp2_with fail
    refine (HImpl.out w14 _ _ _ _ D14).mono ?_
    rintro e w15 ⟨h0, rfl, OH, b15⟩
    have b1215 : Below w12.heap.size w12 w15 := b14.trans (b15.mono s14)
    have b315 : Below w3.heap.size w3 w15 := b312.trans (b1215.mono (by omega))
    have BF := (HBox.out w15 (B12.trans (b1215.mono (by omega)))).2.2
    clear D14 b14 b15 x20 x21
    go_wp2_with fail
    refine (eq_same _ _ _ F OH.rd (HW3.out _ b315).rd).mono ?_
    rintro e w16 ⟨rfl, n16, rfl⟩
    go_wp2_with fail
    refine (HHeld.out _ (by exact below_drew' b1215 _)).mono ?_
    rintro e w17 ⟨rfl, rfl⟩
    go_wp2
    go_ret
    exact ⟨rfl, by exact below_drew' BF _⟩

set_option maxRecDepth 100000 in
theorem lifted (os : Os) (started : os.Started) (H : Type) (enc : TypeId × Value → H) :
    ReturnsInHanded {} Try.checked os 8 .any (Rows.fnExactDiskBytesSpec.pre6 enc Try.prog Try.f8 Rows.fnExactDiskBytesRow.domain false) (Rows.fnExactDiskBytesSpec.post enc Try.prog Try.f8 false true false false) := by
  refine returnsInHanded_of_change (C := Try.checked) own started (by kernel_rfl) Try.func8
    (ChangeSpec.witness6 (enc := enc) (C := Try.checked) false ⟨#[], #[.agg #[.slice none 0 0, .slice none 0 0]], []⟩ 8 (by kernel_rfl) (by kernel_rfl) (by kernel_rfl) (by kernel_rfl)) ?_
  intro W base args ds gs before hval0 hW hcnd _
  have hval : ∀ (j : Nat) t v, Try.f8.params[j]? = some t → args[j]? = some v → Value.okWide Try.prog W .any base t v := hval0
  have hW' := hW
  obtain ⟨p, q, hA0, hV, rfl, hfz, hnd⟩ := hW
  have hA : DataW.TrodAll enc Try.prog W 0 (fun _ => true) true Try.f8.params.toList args.toList ds p := hA0
  rw [Try.params8] at hA hval
  obtain ⟨v0, vs0, d0, ds0, p0, q0, hargs, rfl, rfl, h0, r0⟩ := trodAll_cons hA
  obtain ⟨rfl, rfl, rfl⟩ := trodAll_nil r0
  obtain rfl : args = #[v0] := by cases args; simp_all
  obtain ⟨rfl, rfl⟩ := trodVars_none hV
  obtain ⟨ca, rfl, hsz⟩ := okWide_struct Try.underlying55 (hval 0 55 v0 rfl rfl)
  have k0 := h0
  have lt0 : ∀ x ∈ p0, x.block < W.heap.size := by obtain ⟨m, hm⟩ := k0; exact DataW.trod_lt m _ _ _ hm
  obtain ⟨s0, t0, xs0, us0, xss0, hca, hx0, hy0, hz0⟩ : ∃ s t xs us xss, ca = #[s, t] ∧ RdA W s xs ∧ RdS W t us ∧ Texts W us xss := by
    obtain ⟨fuel, hf⟩ := h0
    obtain ⟨s, t, xs, us, xss, hcs, h1, h2, h3⟩ := open_disk hf
    refine ⟨s, t, xs, us, xss, ?_, h1, h2, h3⟩
    have : ca.toList = [s, t] := by simpa [Value.cells] using hcs
    cases ca
    simp_all
  subst hca
  clear hA0 hval0
  refine (walk W _ _ _ _ _ hx0 hy0 hz0).mono fun e W' ⟨he, bel⟩ => ?_
  subst he
  exact ⟨_, rfl, _, _, _, [], _, [], hW', trodAll_mk1 (shut_bool Try.underlying4 _), (trodAll_cons_mk (Below.trod laidOut (by kernel_rfl) (of_decide_eq_true (by kernel_rfl)) k0 bel lt0) trodAll_mk0), rfl, bel.frame _, fun h => by cases h⟩

theorem over : Rows.fnExactDiskBytesRow.holds Try.pinned (OpenSpec.ofChange Rows.fnExactDiskBytesSpec) :=
  OpenClaim.holds_of_wide 8 Try.f8 rfl rfl rfl rfl rfl rfl rfl ⟨rfl, rfl, rfl, rfl, rfl⟩ rfl rfl rfl rfl rfl (by kernel_rfl) Try.func8 (by kernel_rfl)
    (of_decide_eq_true (by kernel_rfl)) (by unfold Func.isWrapper; first | (rw [if_pos (by decide +kernel)]; kernel_rfl) | (rw [if_neg (by decide +kernel)]; exact ⟨rfl, rfl⟩))
    (fun os started H enc _ => lifted os started H enc)

/-- The statement. -/
theorem proved : Rows.FnExactDiskBytesSaid := over
#print axioms proved
end Go.Proofs.Ythdkphpjpinphaf.fnExactDiskBytes
