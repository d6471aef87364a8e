/- FnExactDiskCrash returns true at all disks and numbers and leaves them as they were: impl's DiskCrash answers as the specification's, in memory of its own; no condition. -/
import Derived.Test.YthdkphpjpinphagSpecDiskCrash
import Derived.Test.YthdkphpjpinphagImplCrash
import Derived.Test.YthdkphpjpinphagArgDisk
import Derived.Deep.RegionLaw
namespace Go.Proofs.Ythdkphpjpinphag.fnExactDiskCrash
open Go.ChangeShapes Go.WideShapes Go.ChangeAt Go.RowKit
open Go.ChangeMaps (open_string shut_string)
open Go.Proofs.Ythdkphpjpinphag.bytes Go.Proofs.Ythdkphpjpinphag.pile Go.Proofs.Ythdkphpjpinphag.reader Go.Proofs.Ythdkphpjpinphag.lists Go.Proofs.Ythdkphpjpinphag.sizes Go.Proofs.Ythdkphpjpinphag.marked Go.Proofs.Ythdkphpjpinphag.given Go.Proofs.Ythdkphpjpinphag.disks Go.Proofs.Ythdkphpjpinphag.diskmarks Go.Proofs.Ythdkphpjpinphag.specdisk Go.Proofs.Ythdkphpjpinphag.tracks Go.Proofs.Ythdkphpjpinphag.trackof Go.Proofs.Ythdkphpjpinphag.crashes Go.Proofs.Ythdkphpjpinphag.crashed Go.Proofs.Ythdkphpjpinphag.speccrash Go.Proofs.Ythdkphpjpinphag.crashans Go.Proofs.Ythdkphpjpinphag.specdiskcrash Go.Proofs.Ythdkphpjpinphag.implcrash Go.Proofs.Ythdkphpjpinphag.givendisk
set_option linter.unusedVariables false

theorem own : ownKnob Try.prog.godebug = none := by kernel_rfl
theorem laidOut : laidOutB Try.prog = true := by kernel_rfl

theorem crashA_le (xs : List Int) (cs : List (List Int)) (keep torn : Int) : (crashA xs cs keep torn).1.length ≤ 8192 := by
  by_cases h : Right xs cs
  · by_cases h2 : keep < 0 ∨ torn < 0
    · rw [crashA_neg h h2]
      simp
    · obtain ⟨K, rfl⟩ := Int.eq_ofNat_of_zero_le (show 0 ≤ keep by omega)
      obtain ⟨R, rfl⟩ := Int.eq_ofNat_of_zero_le (show 0 ≤ torn by omega)
      rw [crashA_ok h, ← crash_take, List.length_take, List.length_append]
      have := h.2
      omega
  · rw [crashA_wrong h]
    simp

/-- A disk without writes. -/
theorem left_disk {w : World} {base : Nat} {s : Value} {F : List Int} (h : Own w base s F) : DiskAt w base s (.slice none 0 0) F [] [] :=
  ⟨h, ⟨World.ownsRow_nil _ _ _ _, Pile.nil _ _⟩, fun i hi => by simp at hi⟩

set_option maxRecDepth 20000 in
set_option maxHeartbeats 4000000 in
theorem walk (w : World) (s p : Value) (xs : List Int) (us : List Value) (cs : List (List Int)) (hX : RdA w s xs) (hS : RdS w p us) (hT : Texts w us cs) (keep torn : Int) (hkw : (Lit.int .i64 keep).wf = true) (htw : (Lit.int .i64 torn).wf = true) :
    Calls Try.prog 3 #[.agg #[s, p], .int .i64 keep, .int .i64 torn] w fun e w' => e = .returned (.bool true) ∧ Below w.heap.size w w' := by
  have hkb : keep ≤ 9223372036854775807 := by simp [Lit.wf, IntKind.min, IntKind.max, IntKind.signed, IntKind.bits] at hkw; omega
  have htb : torn ≤ 9223372036854775807 := by simp [Lit.wf, IntKind.min, IntKind.max, IntKind.signed, IntKind.bits] at htw; omega
  clear hkw htw
  have HS : Hid (RdA w s xs ∧ RdS w p us ∧ Texts w us cs) := ⟨hX, hS, hT⟩
  obtain ⟨⟨a0, c0, rfl, h1, h2, _, _⟩, _⟩ := hX
  obtain ⟨a1, c1, rfl, h3, h4, _⟩ := hS
  unfold maxLen at h2 h4
  clear hT
  obtain ⟨F, C, hFe⟩ : ∃ F C, crashA xs cs keep torn = (F, C) := ⟨_, _, rfl⟩
  have hFl : F.length ≤ 8192 := by have := crashA_le xs cs keep torn; rw [hFe] at this; exact this
  obtain ⟨T, hT⟩ : ∃ T, T = cs.flatten.length := ⟨_, rfl⟩
  have HT : Hid (T = cs.flatten.length) := hT
  clear hT
  have hneC : (C != C) = false := by simp
  obtain ⟨W0, hW0⟩ : ∃ W0, W0 = w.alloc (.cells #[.slice a0 xs.length c0, .slice a1 us.length c1] 25) := ⟨_, rfl⟩
  have b0 : Below w.heap.size w W0 := by rw [hW0]; exact (Below.refl _ _).alloc (Nat.le_refl _) _
  have sz0 : W0.heap.size = w.heap.size + 1 := by rw [hW0]; simp
  have k0 : W0.heap[w.heap.size]? = some (.cells #[.slice a0 xs.length c0, .slice a1 us.length c1] 25 (0, 0)) := by rw [hW0]; exact heap_alloc_new w _
  have HBox : Hid (∀ wx, Below W0.heap.size W0 wx → wx.cell? ⟨w.heap.size, 0, none⟩ = some (.slice a0 xs.length c0) ∧ wx.cell? ⟨w.heap.size, 1, none⟩ = some (.slice a1 us.length c1) ∧ Below w.heap.size w wx) := fun wx hb => by
    have k := (hb.block w.heap.size (by omega)).trans k0
    exact ⟨cell_of k rfl, cell_of k rfl, b0.trans (hb.mono (by omega))⟩
  have hC := szDisk_any W0 _ _ xs us cs 1048576 (by omega) (by omega) (HS.out.1.below b0 (Nat.le_refl _)) (HS.out.2.1.below b0 (Nat.le_refl _)) (HS.out.2.2.below b0 (Nat.le_refl _))
  rw [hW0] at hC
  go_enter Try.func3, Try.ntmps3
  go_wp2_with fail
  refine hC.mono ?_
  rw [← hW0]
  rintro e w1 ⟨⟨r, rfl, hr⟩, b1⟩
  clear hC hW0 k0
  rcases hr with hr | ⟨hr, hsum⟩
  · have HBz := (HBox.out w1 b1).2.2
    go_wp2
    go_ret
    exact ⟨rfl, HBz⟩
  have hr' : ¬ r < 0 := by omega
  rw [← HT.out] at hsum
  have hun : us.length ≤ 1048576 := by omega
  have hTb : T ≤ 1048576 := by omega
  have hxb : xs.length ≤ 1048576 := by omega
  have HEach : Hid (∀ i, (cs.getD i []).length ≤ 281474976710656) := fun i => by
    have := flat_each (xss := cs) (i := i) (n := T) (by rw [HT.out]; exact Nat.le_refl _)
    omega
  clear hsum
  have HTo : Hid (∀ wx, Below W0.heap.size W0 wx → Calls Try.prog 7 #[.agg #[.slice a0 xs.length c0, .slice a1 us.length c1]] wx fun e w' => ∃ o c o2 c2 us', e = .returned (.agg #[.slice o xs.length c, .slice o2 us'.length c2]) ∧ DiskAt w' wx.heap.size (.slice o xs.length c) (.slice o2 us'.length c2) xs us' cs ∧ Below wx.heap.size wx w') := fun wx hb => by
    have B := (HBox.out wx hb).2.2
    refine (toDisk_own wx _ _ xs us cs (HS.out.1.below B (Nat.le_refl _)) (HS.out.2.1.below B (Nat.le_refl _)) (HS.out.2.2.below B (Nat.le_refl _)) (by omega) hun HEach.out).mono ?_
    rintro e w' ⟨v, rfl, o, n, c, o2, c2, us', rfl, hD, hb'⟩
    obtain ⟨o', c', e', _⟩ := hD.synced.rd
    simp only [Value.slice.injEq] at e'
    obtain ⟨rfl, rfl, rfl⟩ := e'
    exact ⟨o, c, o2, c2, us', rfl, hD, hb'⟩
  have HSpec : Hid (∀ (wx : World) (p0 p1 : Value) (ws : List Value) (B : Nat), DiskAt wx B p0 p1 xs ws cs → Calls Try.prog 6 #[.agg #[p0, p1], .int .i64 keep, .int .i64 torn] wx fun e w' => ∃ o c, e = .returned (.tuple #[.agg #[.slice o F.length c, .slice none 0 0], .int .i64 C]) ∧ Own w' wx.heap.size (.slice o F.length c) F ∧ Below wx.heap.size wx w') := fun wx p0 p1 ws B hD => by
    have := specDiskCrash wx p0 p1 xs ws cs (Own.rdA hD.synced) hD.writes.rdS hD.writes.texts (by rw [← HT.out]; omega) keep torn hkb htb
    rw [hFe] at this
    exact this
  have HImpl : Hid (∀ (wx : World) (p0 p1 : Value) (ws : List Value) (B : Nat), DiskAt wx B p0 p1 xs ws cs → Calls Try.prog 8 #[.agg #[p0, p1], .int .i64 keep, .int .i64 torn] wx fun e w' => ∃ o c, e = .returned (.tuple #[.agg #[.slice o F.length c, .slice none 0 0], .int .i64 C]) ∧ Own w' wx.heap.size (.slice o F.length c) F ∧ Below wx.heap.size wx w') := fun wx p0 p1 ws B hD => by
    have := implDiskCrash wx p0 p1 xs ws cs (Own.rdA hD.synced) hD.writes.rdS hD.writes.texts (by rw [← HT.out]; omega) keep torn hkb htb
    rw [hFe] at this
    exact this
  have HEq : Hid (∀ (wx : World) (s1 s2 : Value) (B1 B2 : Nat), Own wx B1 s1 F → Own wx B2 s2 F → Calls Try.prog 9 #[.agg #[s1, .slice none 0 0], .agg #[s2, .slice none 0 0]] wx fun e w' => e = .returned (.bool true) ∧ Below wx.heap.size wx w') := fun wx s1 s2 B1 B2 o1 o2 =>
    eqDisk_same wx _ _ _ _ F [] [] [] (Own.rdA o1) (left_disk o1).writes.rdS (left_disk o1).writes.texts (Own.rdA o2) (left_disk o2).writes.rdS (left_disk o2).writes.texts
  clear hFe
  have s1 := b1.size
  obtain ⟨x10, x11, _⟩ := HBox.out w1 b1
  go_wp2_with fail
  refine (HTo.out w1 b1).mono ?_
  rintro e w2 ⟨o2, n2, p2, q2, us2, rfl, D2, b2⟩
  have s2 := b2.size
  go_wp2_with fail
  refine (HSpec.out w2 _ _ _ _ D2).mono ?_
  rintro e w3 ⟨oW, cW, rfl, OW, b3⟩
  have s3 := b3.size
  obtain ⟨w4, hw4⟩ : ∃ w4, w4 = w3.alloc (.cells #[.slice oW F.length cW, .slice none 0 0] 27) := ⟨_, rfl⟩
  have b34 : Below w3.heap.size w3 w4 := by rw [hw4]; exact (Below.refl _ _).alloc (Nat.le_refl _) _
  have sz4 : w4.heap.size = w3.heap.size + 1 := by rw [hw4]; simp
  have k4 : w4.heap[w3.heap.size]? = some (.cells #[.slice oW F.length cW, .slice none 0 0] 27 (0, 0)) := by rw [hw4]; exact heap_alloc_new w3 _
  have B4 : Below W0.heap.size W0 w4 := b1.trans ((b2.mono s1).trans ((b3.mono (by omega)).trans (b34.mono (by omega))))
  have HW4 : Hid (∀ wx, Below w4.heap.size w4 wx → Own wx w2.heap.size (.slice oW F.length cW) F ∧ wx.cell? ⟨w3.heap.size, 0, none⟩ = some (.slice oW F.length cW) ∧ wx.cell? ⟨w3.heap.size, 1, none⟩ = some (.slice none 0 0)) := fun wx hb => by
    have k := (hb.block _ (by omega)).trans k4
    exact ⟨(OW.below b34 (Nat.le_refl _)).below hb (Nat.le_refl _), cell_of k rfl, cell_of k rfl⟩
  have hT4 := HTo.out w4 B4
  obtain ⟨x40, x41, _⟩ := HBox.out w4 B4
  rw [hw4] at hT4 x40 x41
  clear D2 OW b2 b3 x10 x11 k4
  go_wp2_with fail
  refine hT4.mono ?_
  rw [← hw4]
  rintro e w5 ⟨o5, n5, p5, q5, us5, rfl, D5, b5⟩
  clear hT4 x40 x41 hw4
  have s5 := b5.size
  obtain ⟨w6, hw6⟩ : ∃ w6, w6 = w5.alloc (.cells #[.slice o5 xs.length n5, .slice p5 us5.length q5] 27) := ⟨_, rfl⟩
  have b56 : Below w5.heap.size w5 w6 := by rw [hw6]; exact (Below.refl _ _).alloc (Nat.le_refl _) _
  have sz6 : w6.heap.size = w5.heap.size + 1 := by rw [hw6]; simp
  have k6 : w6.heap[w5.heap.size]? = some (.cells #[.slice o5 xs.length n5, .slice p5 us5.length q5] 27 (0, 0)) := by rw [hw6]; exact heap_alloc_new w5 _
  have hI := HImpl.out w6 _ _ _ _ (DiskAt.below D5 b56 (Nat.le_refl _))
  rw [hw6] at hI
  go_wp2_with fail
  refine hI.mono ?_
  rw [← hw6]
  rintro e w7 ⟨oG, cG, rfl, OG, b7⟩
  clear hI hw6
  have s7 := b7.size
  obtain ⟨w8, hw8⟩ : ∃ w8, w8 = w7.alloc (.cells #[.slice oG F.length cG, .slice none 0 0] 27) := ⟨_, rfl⟩
  have b78 : Below w7.heap.size w7 w8 := by rw [hw8]; exact (Below.refl _ _).alloc (Nat.le_refl _) _
  have sz8 : w8.heap.size = w7.heap.size + 1 := by rw [hw8]; simp
  have k8G : w8.heap[w7.heap.size]? = some (.cells #[.slice oG F.length cG, .slice none 0 0] 27 (0, 0)) := by rw [hw8]; exact heap_alloc_new w7 _
  have k8X : w8.heap[w5.heap.size]? = some (.cells #[.slice o5 xs.length n5, .slice p5 us5.length q5] 27 (0, 0)) := (b78.block _ (by omega)).trans ((b7.block _ (by omega)).trans k6)
  have b48 : Below w4.heap.size w4 w8 := b5.trans ((b56.mono s5).trans ((b7.mono (by omega)).trans (b78.mono (by omega))))
  have b58 : Below w5.heap.size w5 w8 := b56.trans ((b7.mono (by omega)).trans (b78.mono (by omega)))
  have hE8 := HEq.out w8 _ _ _ _ (OG.below b78 (Nat.le_refl _)) (HW4.out w8 b48).1
  obtain ⟨_, y80, y81⟩ := HW4.out w8 b48
  rw [hw8] at hE8 y80 y81
  clear k6
  have HX : Hid (DiskAt w5 w4.heap.size (.slice o5 xs.length n5) (.slice p5 us5.length q5) xs us5 cs) := D5
  have HG : Hid (Own w7 w6.heap.size (.slice oG F.length cG) F) := OG
  clear D5 OG b5 b56 b7
  go_wp2_with fail
  refine hE8.mono ?_
  rw [← hw8]
  rintro e w9 ⟨rfl, b9⟩
  clear hE8 y80 y81 hw8
  have s9 := b9.size
  have k9G : w9.heap[w7.heap.size]? = some (.cells #[.slice oG F.length cG, .slice none 0 0] 27 (0, 0)) := (b9.block _ (by omega)).trans k8G
  have k9X : w9.heap[w5.heap.size]? = some (.cells #[.slice o5 xs.length n5, .slice p5 us5.length q5] 27 (0, 0)) := (b9.block _ (by omega)).trans k8X
  have b49 : Below w4.heap.size w4 w9 := b48.trans (b9.mono (by omega))
  have b59 : Below w5.heap.size w5 w9 := b58.trans (b9.mono (by omega))
  have b79 : Below w7.heap.size w7 w9 := b78.trans (b9.mono (by omega))
  have B9 : Below W0.heap.size W0 w9 := B4.trans (b49.mono (by omega))
  obtain ⟨y90, y91, _⟩ := HBox.out w9 B9
  have z90 := cell_of k9X (i := 0) rfl
  have z91 := cell_of k9X (i := 1) rfl
  have HTo10 : Hid (∀ n, Calls Try.prog 7 #[.agg #[.slice a0 xs.length c0, .slice a1 us.length c1]] (w9.drewN n) fun e w' => ∃ o c o2 c2 us', e = .returned (.agg #[.slice o xs.length c, .slice o2 us'.length c2]) ∧ Hid (DiskAt w' w9.heap.size (.slice o xs.length c) (.slice o2 us'.length c2) xs us' cs ∧ Below w9.heap.size w9 w') ∧ w'.cell? ⟨w5.heap.size, 0, none⟩ = some (.slice o5 xs.length n5) ∧ w'.cell? ⟨w5.heap.size, 1, none⟩ = some (.slice p5 us5.length q5)) := fun n => by
    refine (HTo.out (w9.drewN n) (below_drew' B9 n)).mono ?_
    rintro e w' ⟨o, c, o2, c2, us', rfl, hD, hb⟩
    have hb' : Below w9.heap.size w9 w' := ⟨hb.os, hb.tape, hb.output, hb.size, hb.block⟩
    have k := (hb'.block _ (by omega)).trans k9X
    exact ⟨o, c, o2, c2, us', rfl, hide ⟨hD, hb'⟩, cell_of k rfl, cell_of k rfl⟩
  have HEq10 : Hid (∀ w' o c o2 c2 us', Hid (DiskAt w' w9.heap.size (.slice o xs.length c) (.slice o2 us'.length c2) xs us' cs ∧ Below w9.heap.size w9 w') → Calls Try.prog 9 #[.agg #[.slice o5 xs.length n5, .slice p5 us5.length q5], .agg #[.slice o xs.length c, .slice o2 us'.length c2]] w' fun e w'' => e = .returned (.bool true) ∧ Hid (Below w9.heap.size w9 w'')) := fun w' o c o2 c2 us' h => by
    have hX := DiskAt.below HX.out (b59.trans (h.out.2.mono (by omega))) (Nat.le_refl _)
    refine (eqDisk_same w' _ _ _ _ xs us5 us' cs (Own.rdA hX.synced) hX.writes.rdS hX.writes.texts (Own.rdA h.out.1.synced) h.out.1.writes.rdS h.out.1.writes.texts).mono ?_
    rintro e w'' ⟨rfl, hb⟩
    exact ⟨rfl, h.out.2.trans (hb.mono (by have := h.out.2.size; omega))⟩
  clear k8G k8X b48 b58 b78 b9
  go_wp2
  go_region_law (first | (go_simp; go_at_call 7; refine (HTo10.out _).mono ?_; rintro e w10 ⟨o10, n10, p10, q10, us10, rfl, H10, u80, u81⟩) | (go_simp; go_at_call 9; refine (HEq10.out _ _ _ _ _ _ H10).mono ?_; rintro e w11 ⟨rfl, H11⟩))
  all_goals
    have b911 : Below w9.heap.size w9 w11 := H11.out
    have s11 := b911.size
    have k11G : w11.heap[w7.heap.size]? = some (.cells #[.slice oG F.length cG, .slice none 0 0] 27 (0, 0)) := (b911.block _ (by omega)).trans k9G
    have k11X : w11.heap[w5.heap.size]? = some (.cells #[.slice o5 xs.length n5, .slice p5 us5.length q5] 27 (0, 0)) := (b911.block _ (by omega)).trans k9X
    have b411 : Below w4.heap.size w4 w11 := b49.trans (b911.mono (by omega))
    have X11 := DiskAt.below HX.out (b59.trans (b911.mono (by omega))) (Nat.le_refl _)
    have G11 := HG.out.below (b79.trans (b911.mono (by omega))) (Nat.le_refl _)
    have v90 := cell_of k11X (i := 0) rfl
    have v91 := cell_of k11X (i := 1) rfl
    clear H10 u80 u81 HTo10 HEq10 y90 y91 z90 z91 H11
    go_wp2_with fail
    refine (markDisk_own w11 w4.heap.size _ _ xs us5 cs 1 (by omega) (by rw [← HT.out]; omega) X11).mono ?_
    rintro e w12 ⟨rfl, _, t12⟩
    rw [← HT.out]
    have s12 := t12.2.2.2.1
    have hxl : ∀ i, i < (Value.slice o5 xs.length n5 :: us5).length → ∀ k, ((Value.slice o5 xs.length n5 :: us5).getD i (.slice none 0 0)).ownBlock = some k → w4.heap.size ≤ k ∧ k < w5.heap.size := fun i hi k hk => by
      cases i with
      | zero => exact HX.out.synced.lt k hk
      | succ i => exact (HX.out.writes.pile.2.1 i (by simpa using hi)).lt k hk
    have b412 : Below w4.heap.size w4 w12 := b411.trans (t12.below (by omega) (fun i hi k hk => (hxl i hi k hk).1))
    have G12 := t12.own G11 (fun i hi k hk hk2 => by have h1 := (hxl i hi k hk).2; have h2 := (HG.out.lt k hk2).1; omega)
    have k12G : w12.heap[w7.heap.size]? = some (.cells #[.slice oG F.length cG, .slice none 0 0] 27 (0, 0)) := (t12.2.2.2.2 _ (by omega) (fun i hi e => by have := hxl i hi _ e; omega)).trans k11G
    have hnk : ¬ (1 : Int) + xs.length + T < 0 := by omega
    obtain ⟨W12, y120, y121⟩ := HW4.out w12 b412
    have v120 := cell_of k12G (i := 0) rfl
    have v121 := cell_of k12G (i := 1) rfl
    clear t12 X11 G11 v90 v91 k11G k11X
    go_wp2_with fail
    refine (HEq.out w12 _ _ _ _ G12 W12).mono ?_
    rintro e w13 ⟨rfl, b13⟩
    have s13 := b13.size
    have k13G : w13.heap[w7.heap.size]? = some (.cells #[.slice oG F.length cG, .slice none 0 0] 27 (0, 0)) := (b13.block _ (by omega)).trans k12G
    have G13 := G12.below b13 (Nat.le_refl _)
    have b413 : Below w4.heap.size w4 w13 := b412.trans (b13.mono (by omega))
    have v130 := cell_of k13G (i := 0) rfl
    have v131 := cell_of k13G (i := 1) rfl
    have hM := markDisk_own w13 w6.heap.size _ _ F [] [] 1 (by omega) (by simp; omega) (left_disk G13)
    have e0 : ((1 : Int) + (F.length : Int) + (([] : List (List Int)).flatten.length : Int)) = 1 + F.length := by simp
    rw [e0] at hM
    clear G12 W12 v120 v121 y120 y121 b13
    go_wp2_with fail
    refine hM.mono ?_
    rintro e w14 ⟨rfl, M14, t14⟩
    have s14 := t14.2.2.2.1
    have hgl : ∀ i, i < (Value.slice oG F.length cG :: ([] : List Value)).length → ∀ k, ((Value.slice oG F.length cG :: ([] : List Value)).getD i (.slice none 0 0)).ownBlock = some k → w6.heap.size ≤ k ∧ k < w7.heap.size := fun i hi k hk => by
      cases i with
      | zero => exact HG.out.lt k hk
      | succ i => simp at hi
    have b414 : Below w4.heap.size w4 w14 := b413.trans (t14.below (by omega) (fun i hi k hk => by have := hgl i hi k hk; omega))
    have k14G : w14.heap[w7.heap.size]? = some (.cells #[.slice oG F.length cG, .slice none 0 0] 27 (0, 0)) := (t14.2.2.2.2 _ (by omega) (fun i hi e => by have := hgl i hi _ e; omega)).trans k13G
    have HHeld : Hid (∀ wx, Below w14.heap.size w14 wx → Calls Try.prog 11 #[.agg #[.slice oG F.length cG, .slice none 0 0], .int .i64 1] wx fun e w' => e = .returned (.int .i64 (1 + F.length)) ∧ Below wx.heap.size wx w') := fun wx hb => by
      have h := heldDisk_same wx w6.heap.size _ _ F [] [] 1 (by omega) (by simp; omega) (M14.below hb)
      rw [e0] at h
      exact h
    have v140 := cell_of k14G (i := 0) rfl
    have v141 := cell_of k14G (i := 1) rfl
    have hn1 : ¬ (1 : Int) + F.length < 0 := by omega
    have hne2 : ((1 : Int) + F.length != (1 : Int) + F.length) = false := by simp
    clear hM M14 t14 G13 v130 v131 k13G b413 e0
    go_wp2_with fail
    refine (HHeld.out w14 (Below.refl _ _)).mono ?_
    rintro e w15 ⟨rfl, b15⟩
    have s15 := b15.size
    have b415 : Below w4.heap.size w4 w15 := b414.trans (b15.mono (by omega))
    have B15 : Below W0.heap.size W0 w15 := B4.trans (b415.mono (by omega))
    obtain ⟨x20, x21, _⟩ := HBox.out w15 B15
    clear v140 v141
    go_wp2_with fail
    refine (HTo.out w15 B15).mono ?_
    rintro e w16 ⟨o16, n16, p16, q16, us16, rfl, D16, b16⟩
    have s16 := b16.size
    go_wp2_with fail
    refine (HImpl.out w16 _ _ _ _ D16).mono ?_
    rintro e w17 ⟨oH, cH, rfl, OH, b17⟩
    have s17 := b17.size
    obtain ⟨w18, hw18⟩ : ∃ w18, w18 = w17.alloc (.cells #[.slice oH F.length cH, .slice none 0 0] 27) := ⟨_, rfl⟩
    have b1718 : Below w17.heap.size w17 w18 := by rw [hw18]; exact (Below.refl _ _).alloc (Nat.le_refl _) _
    have b1518 : Below w15.heap.size w15 w18 := b16.trans ((b17.mono s16).trans (b1718.mono (by omega)))
    have b418 : Below w4.heap.size w4 w18 := b415.trans (b1518.mono (by omega))
    have hE18 := HEq.out w18 _ _ _ _ (OH.below b1718 (Nat.le_refl _)) (HW4.out w18 b418).1
    obtain ⟨_, y180, y181⟩ := HW4.out w18 b418
    have s18 := b1518.size
    rw [hw18] at hE18 y180 y181
    clear D16 OH b16 b17 x20 x21
    go_wp2_with fail
    refine hE18.mono ?_
    rw [← hw18]
    rintro e w19 ⟨rfl, b19⟩
    clear hE18 y180 y181 hw18
    have s19 := b19.size
    have b1419 : Below w14.heap.size w14 w19 := b15.trans ((b1518.mono s15).trans (b19.mono (by omega)))
    have k19G : w19.heap[w7.heap.size]? = some (.cells #[.slice oG F.length cG, .slice none 0 0] 27 (0, 0)) := (b1419.block _ (by omega)).trans k14G
    have v190 := cell_of k19G (i := 0) rfl
    have v191 := cell_of k19G (i := 1) rfl
    have B19 : Below W0.heap.size W0 w19 := B4.trans ((b414.trans (b1419.mono (by omega))).mono (by omega))
    go_wp2_with fail
    refine (HHeld.out w19 b1419).mono ?_
    rintro e w20 ⟨rfl, b20⟩
    have BF := (HBox.out w20 (B19.trans (b20.mono B19.size))).2.2
    go_wp2
    go_ret
    exact ⟨rfl, BF⟩

set_option maxRecDepth 100000 in
theorem lifted (os : Os) (started : os.Started) (H : Type) (enc : TypeId × Value → H) :
    ReturnsInHanded {} Try.checked os 3 .any (Rows.fnExactDiskCrashSpec.pre6 enc Try.prog Try.f3 Rows.fnExactDiskCrashRow.domain false) (Rows.fnExactDiskCrashSpec.post enc Try.prog Try.f3 false true false false) := by
  refine returnsInHanded_of_change (C := Try.checked) own started (by kernel_rfl) Try.func3
    (ChangeSpec.witness6 (enc := enc) (C := Try.checked) false ⟨#[], #[.agg #[.slice none 0 0, .slice none 0 0], .int .i64 0, .int .i64 0], []⟩ 8 (by kernel_rfl) (by kernel_rfl) (by kernel_rfl) (by kernel_rfl)) ?_
  intro W base args ds gs before hval0 hW hcnd _
  have hval : ∀ (j : Nat) t v, Try.f3.params[j]? = some t → args[j]? = some v → Value.okWide Try.prog W .any base t v := hval0
  have hW' := hW
  obtain ⟨p, q, hA0, hV, rfl, hfz, hnd⟩ := hW
  have hA : DataW.TrodAll enc Try.prog W 0 (fun _ => true) true Try.f3.params.toList args.toList ds p := hA0
  rw [Try.params3] at hA hval
  obtain ⟨v0, vs0, d0, ds0, p0, q0, hargs, rfl, rfl, h0, r0⟩ := trodAll_cons hA
  obtain ⟨v1, vs1, d1, ds1, p1, q1, rfl, rfl, rfl, h1, r1⟩ := trodAll_cons r0
  obtain ⟨v2, vs2, d2, ds2, p2, q2, rfl, rfl, rfl, h2, r2⟩ := trodAll_cons r1
  obtain ⟨rfl, rfl, rfl⟩ := trodAll_nil r2
  obtain rfl : args = #[v0, v1, v2] := by cases args; simp_all
  obtain ⟨rfl, rfl⟩ := trodVars_none hV
  obtain ⟨ca, rfl, hsz⟩ := okWide_struct Try.underlying25 (hval 0 25 v0 rfl rfl)
  have k0 := h0
  have lt0 : ∀ x ∈ p0, x.block < W.heap.size := by obtain ⟨m, hm⟩ := k0; exact DataW.trod_lt m _ _ _ hm
  obtain ⟨s0, t0, xs0, us0, xss0, hca, hx0, hy0, hz0⟩ : ∃ s t xs us xss, ca = #[s, t] ∧ RdA W s xs ∧ RdS W t us ∧ Texts W us xss := by
    obtain ⟨fuel, hf⟩ := h0
    obtain ⟨s, t, xs, us, xss, hcs, h1, h2, h3⟩ := open_disk hf
    refine ⟨s, t, xs, us, xss, ?_, h1, h2, h3⟩
    have : ca.toList = [s, t] := by simpa [Value.cells] using hcs
    cases ca
    simp_all
  subst hca
  obtain ⟨a1, rfl, rfl, rfl, i1⟩ := open_int Try.underlying3 (hval 1 3 v1 rfl rfl) h1
  obtain ⟨a2, rfl, rfl, rfl, i2⟩ := open_int Try.underlying3 (hval 2 3 v2 rfl rfl) h2
  clear hA0 hval0
  refine (walk W _ _ _ _ _ hx0 hy0 hz0 a1 a2 i1 i2).mono fun e W' ⟨he, bel⟩ => ?_
  subst he
  exact ⟨_, rfl, _, _, _, [], _, [], hW', trodAll_mk1 (shut_bool Try.underlying4 _), (trodAll_cons_mk (Below.trod laidOut (by kernel_rfl) (of_decide_eq_true (by kernel_rfl)) k0 bel lt0) (trodAll_cons_mk (shut_int Try.underlying3 i1) (trodAll_cons_mk (shut_int Try.underlying3 i2) trodAll_mk0))), rfl, bel.frame _, fun h => by cases h⟩

theorem over : Rows.fnExactDiskCrashRow.holds Try.pinned (OpenSpec.ofChange Rows.fnExactDiskCrashSpec) :=
  OpenClaim.holds_of_wide 3 Try.f3 rfl rfl rfl rfl rfl rfl rfl ⟨rfl, rfl, rfl, rfl, rfl⟩ rfl rfl rfl rfl rfl (by kernel_rfl) Try.func3 (by kernel_rfl)
    (of_decide_eq_true (by kernel_rfl)) (by unfold Func.isWrapper; first | (rw [if_pos (by decide +kernel)]; kernel_rfl) | (rw [if_neg (by decide +kernel)]; exact ⟨rfl, rfl⟩))
    (fun os started H enc _ => lifted os started H enc)

/-- The statement. -/
theorem proved : Rows.FnExactDiskCrashSaid := over
#print axioms proved
end Go.Proofs.Ythdkphpjpinphag.fnExactDiskCrash
