/- FnExactWalOf returns true at all states of a log and leaves them as they were: impl's WalOf answers as the specification's, in memory of its own; no condition. -/
import Derived.Test.YtipcdioolafkpagWalOfs
import Derived.Test.YtipcdioolafkpagArgWal
import Derived.OpenShut
import Derived.ShutString
import Derived.ChangeOld
namespace Go.Proofs.Ytipcdioolafkpag.fnExactWalOf
open Go.ChangeShapes Go.WideShapes Go.ChangeAt Go.RowKit
open Go.Proofs.Ytipcdioolafkpag.bytes Go.Proofs.Ytipcdioolafkpag.pile Go.Proofs.Ytipcdioolafkpag.put Go.Proofs.Ytipcdioolafkpag.crcs Go.Proofs.Ytipcdioolafkpag.join Go.Proofs.Ytipcdioolafkpag.frames Go.Proofs.Ytipcdioolafkpag.votes Go.Proofs.Ytipcdioolafkpag.pays Go.Proofs.Ytipcdioolafkpag.recs Go.Proofs.Ytipcdioolafkpag.implrecs Go.Proofs.Ytipcdioolafkpag.steps Go.Proofs.Ytipcdioolafkpag.entries Go.Proofs.Ytipcdioolafkpag.entpays Go.Proofs.Ytipcdioolafkpag.implent Go.Proofs.Ytipcdioolafkpag.rechelp Go.Proofs.Ytipcdioolafkpag.recrows Go.Proofs.Ytipcdioolafkpag.recmarks Go.Proofs.Ytipcdioolafkpag.walhelp Go.Proofs.Ytipcdioolafkpag.walright Go.Proofs.Ytipcdioolafkpag.walof Go.Proofs.Ytipcdioolafkpag.given Go.Proofs.Ytipcdioolafkpag.givenrec Go.Proofs.Ytipcdioolafkpag.givenwal
open Go.ChangeMaps (open_string shut_string)
set_option linter.unusedVariables false

theorem own : ownKnob Try.prog.godebug = none := by kernel_rfl
theorem laidOut : laidOutB Try.prog = true := by kernel_rfl

set_option maxHeartbeats 1000000 in
theorem marks_nil (w : World) (ao : Option Addr) (ca : Nat) :
    Calls Try.prog 59 #[.slice ao 0 ca, .int .i64 1] w fun e w' => e = .returned (.int .i64 1) ∧ w' = w := by
  go_enter Try.func59, Try.ntmps59
  go_wp2
  go_loop [1, 5] (fun q' i => i = .int .i64 0 ∧ q' = .int .i64 1) (fun _ _ => 0)
  case atStart => exact ⟨rfl, rfl⟩
  case round =>
    obtain ⟨rfl, rfl⟩ := hrel
    go_wp2
    go_ret
    exact ⟨rfl, rfl⟩

set_option maxHeartbeats 1000000 in
theorem mark_nil (w : World) (a : Wal5) (ao : Option Addr) (ca : Nat) :
    Calls Try.prog 33 #[.agg #[.int .i64 a.T, .int .i64 a.V, .int .i64 a.B, .int .i64 a.BT, .slice ao 0 ca, .int .i64 a.G], .int .i64 1] w fun e w' => e = .returned (.int .i64 1) ∧ Below w.heap.size w w' := by
  have hb : Below w.heap.size w (w.alloc (.cells #[.int .i64 a.T, .int .i64 a.V, .int .i64 a.B, .int .i64 a.BT, .slice ao 0 ca, .int .i64 a.G] 50)) := (Below.refl _ _).alloc (Nat.le_refl _) _
  go_enter Try.func33, Try.ntmps33
  go_wp2_with fail
  refine (marks_nil _ ao ca).mono ?_
  rintro e w1 ⟨rfl, rfl⟩
  go_wp2
  go_ret
  exact ⟨rfl, hb⟩

theorem own_kept' {w w' : World} {base : Nat} {v : Value} {row : Option Nat} {xs : List Int} (h : Own w base v xs) (hg : w.grownBy w' row) (hne : ∀ k, v.ownBlock = some k → row ≠ some k) : Own w' base v xs :=
  ⟨h.1, World.ownsRow.kept h.2 hg (by
    cases hv : v.ownBlock with
    | none => exact .inl rfl
    | some k => exact .inr fun e => hne k hv e.symm)⟩

/-- The blocks of what is owned. -/
theorem recs_lt {w : World} {base : Nat} {v : Value} {rl : List Rec3} {us : List Value} (h : OwnRecs w base v rl us) (hp : 0 < rl.length) : ∀ u ∈ (v :: us), ∀ k, u.ownBlock = some k → base ≤ k ∧ k < w.heap.size := by
  intro u hu k hk
  rcases List.mem_cons.1 hu with rfl | hu
  · obtain ⟨ao, cap, rfl, _, _, h4⟩ := h.row
    obtain ⟨g, off, cur, rfl, hb, hg, _⟩ := h4 hp
    simp only [Value.ownBlock, Option.some.injEq] at hk
    subst hk
    exact ⟨hb, (Array.getElem?_eq_some_iff.1 hg).1⟩
  · obtain ⟨j, hj, rfl⟩ := List.getElem_of_mem hu
    have hj' : j < rl.length := by rw [← h.len]; exact hj
    have := h.each j hj'
    have e : us.getD j (.slice none 0 0) = us[j] := by simp [List.getD_eq_getElem?_getD, hj]
    rw [e] at this
    exact this.lt k hk

/-- A mark writes the blocks from base to below hi alone. -/
theorem mark_span (w : World) (base hi : Nat) (a : Wal5) (v : Value) (rl : List Rec3) (us : List Value) (h : OwnRecs w base v rl us) (hq : mAt 1 rl rl.length ≤ 4611686018427387904) (hhi : ∀ u ∈ (v :: us), ∀ k, 0 < rl.length → u.ownBlock = some k → k < hi) (hs : base ≤ w.heap.size) :
    Calls Try.prog 33 #[.agg #[.int .i64 a.T, .int .i64 a.V, .int .i64 a.B, .int .i64 a.BT, v, .int .i64 a.G], .int .i64 1] w fun e w' => e = .returned (.int .i64 (mAt 1 rl rl.length)) ∧ Below base w w' ∧ ∀ {b2 : Nat} {x : Value} {xs : List Int}, hi ≤ b2 → Own w b2 x xs → Own w' b2 x xs := by
  by_cases hp : 0 < rl.length
  · refine (markWal_own w base a v rl us 1 (by omega) hq h).mono ?_
    rintro e w' ⟨rfl, _, t⟩
    refine ⟨rfl, t.below hs (fun u hu k hk => (recs_lt h hp u hu k hk).1), fun {b2 x xs} hb2 hx => t.own hx (fun u hu k hk hk2 => ?_)⟩
    have h1 := hhi u hu k hp hk
    have h2 := (hx.lt k hk2).1
    omega
  · have h0 : rl.length = 0 := by omega
    obtain ⟨ao, ca, rfl, _⟩ := h.row
    have hrl : rl = [] := List.length_eq_zero_iff.1 h0
    subst hrl
    have hus : us = [] := List.length_eq_zero_iff.1 h.len
    subst hus
    have hnil : OwnRecs w base (.slice none 0 0) [] [] := ⟨rfl, ⟨none, 0, rfl, by simp, by simp [maxLen], by simp⟩, fun k hk => by simp at hk, fun i j hi => by simp at hi⟩
    refine (mark_nil w a ao ca).mono ?_
    rintro e w' ⟨rfl, hb⟩
    exact ⟨by simp [mAt, sumTo], hb.mono (by omega), fun {b2 x xs} _ hx => hx.below hb (Nat.le_refl _)⟩

set_option maxRecDepth 20000 in
set_option maxHeartbeats 4000000 in
theorem walk (w : World) (a : Wal5) (v : Value) (rl : List Rec3) (us : List Value) (hU : RdRecs w v rl us) :
    Calls Try.prog 8 #[.agg #[.int .i64 a.T, .int .i64 a.V, .int .i64 a.B, .int .i64 a.BT, v, .int .i64 a.G]] w fun e w' => e = .returned (.bool true) ∧ Below w.heap.size w w' := by
  have HS : Hid (RdRecs w v rl us) := hU
  obtain ⟨a0, c0, rfl, h1, h2, _⟩ := hU.row
  clear hU
  unfold maxLen at h2
  obtain ⟨F, hF⟩ : ∃ F, F = walA a rl := ⟨_, rfl⟩
  obtain ⟨C, hCc⟩ : ∃ C, C = walC a rl := ⟨_, rfl⟩
  have hFl : F.length ≤ 65536 := by rw [hF]; exact walA_len a rl
  have hneC : (C != C) = false := by simp
  obtain ⟨S, hS⟩ : ∃ S, S = sumTo rl rl.length := ⟨_, rfl⟩
  have HSum : Hid (S = sumTo rl rl.length) := hS
  obtain ⟨W0, hW0⟩ : ∃ W0, W0 = w.alloc (.cells #[.int .i64 a.T, .int .i64 a.V, .int .i64 a.B, .int .i64 a.BT, .slice a0 rl.length c0, .int .i64 a.G] 59) := ⟨_, rfl⟩
  have b0 : Below w.heap.size w W0 := by rw [hW0]; exact (Below.refl _ _).alloc (Nat.le_refl _) _
  have sz0 : W0.heap.size = w.heap.size + 1 := by rw [hW0]; simp
  have k0 : W0.heap[w.heap.size]? = some (.cells #[.int .i64 a.T, .int .i64 a.V, .int .i64 a.B, .int .i64 a.BT, .slice a0 rl.length c0, .int .i64 a.G] 59 (0, 0)) := by rw [hW0]; exact heap_alloc_new w _
  have HBox : Hid (∀ wx, Below W0.heap.size W0 wx → (wx.cell? ⟨w.heap.size, 0, none⟩ = some (.int .i64 a.T) ∧ wx.cell? ⟨w.heap.size, 1, none⟩ = some (.int .i64 a.V) ∧ wx.cell? ⟨w.heap.size, 2, none⟩ = some (.int .i64 a.B) ∧ wx.cell? ⟨w.heap.size, 3, none⟩ = some (.int .i64 a.BT) ∧ wx.cell? ⟨w.heap.size, 4, none⟩ = some (.slice a0 rl.length c0) ∧ wx.cell? ⟨w.heap.size, 5, none⟩ = some (.int .i64 a.G)) ∧ Below w.heap.size w wx) := fun wx hb => by
    have k := (hb.block w.heap.size (by omega)).trans k0
    exact ⟨⟨cell_of k rfl, cell_of k rfl, cell_of k rfl, cell_of k rfl, cell_of k rfl, cell_of k rfl⟩, b0.trans (hb.mono (by omega))⟩
  have hC := szWal_any W0 a _ rl us 1048576 (by omega) (by omega) (HS.out.below b0 (Nat.le_refl _))
  rw [hW0, ← hS] at hC
  clear hS
  have HSpec : Hid (∀ wx v vs, RdRecs wx v rl vs → Calls Try.prog 36 #[.agg #[.int .i64 a.T, .int .i64 a.V, .int .i64 a.B, .int .i64 a.BT, v, .int .i64 a.G]] wx fun e w' => ∃ v, e = .returned (.tuple #[v, .int .i64 C]) ∧ Own w' wx.heap.size v F ∧ Below wx.heap.size wx w') := fun wx v vs hv => by rw [hF, hCc]; exact specWal wx a v rl vs hv
  have HImpl : Hid (∀ wx v vs, RdRecs wx v rl vs → Calls Try.prog 38 #[.agg #[.int .i64 a.T, .int .i64 a.V, .int .i64 a.B, .int .i64 a.BT, v, .int .i64 a.G]] wx fun e w' => ∃ v, e = .returned (.tuple #[v, .int .i64 C]) ∧ Own w' wx.heap.size v F ∧ Below wx.heap.size wx w') := fun wx v vs hv => by rw [hF, hCc]; exact implWal wx a v rl vs hv
  clear hF hCc
  go_enter Try.func8, Try.ntmps8
  go_wp2_with fail
  refine hC.mono ?_
  rw [← hW0]
  rintro e w1 ⟨⟨r, rfl, hr⟩, b1⟩
  clear hC hW0 k0
  rcases hr with hr | ⟨hr, hsum⟩
  · have HBz := (HBox.out w1 b1).2
    go_wp2
    go_ret
    exact ⟨rfl, HBz⟩
  have hr' : ¬ r < 0 := by omega
  have hyb : rl.length + S ≤ 1048576 := by omega
  clear hsum
  have HTo : Hid (∀ wx, Below W0.heap.size W0 wx → Calls Try.prog 37 #[.agg #[.int .i64 a.T, .int .i64 a.V, .int .i64 a.B, .int .i64 a.BT, .slice a0 rl.length c0, .int .i64 a.G]] wx fun e w' => ∃ o c vs, e = .returned (.agg #[.int .i64 a.T, .int .i64 a.V, .int .i64 a.B, .int .i64 a.BT, .slice o rl.length c, .int .i64 a.G]) ∧ OwnRecs w' wx.heap.size (.slice o rl.length c) rl vs ∧ Below wx.heap.size wx w') := fun wx hb => by
    refine (toWal_own wx a _ rl us (HS.out.below (HBox.out wx hb).2 (Nat.le_refl _)) (by rw [← HSum.out]; omega)).mono ?_
    rintro e w' ⟨v, rfl, o, c, vs, rfl, hO, hb'⟩
    exact ⟨o, c, vs, rfl, hO, hb'⟩
  have s1 := b1.size
  obtain ⟨⟨x0, x1, x2, x3, x4, x5⟩, _⟩ := HBox.out w1 b1
  go_wp2_with fail
  refine (HTo.out w1 b1).mono ?_
  rintro e w2 ⟨o2, c2, vs2, rfl, O2, b2⟩
  have s2 := b2.size
  go_wp2_with fail
  refine (HSpec.out w2 _ vs2 O2.rd).mono ?_
  rintro e w3 ⟨v0, rfl, OW, b3⟩
  have s3 := b3.size
  have B3 : Below W0.heap.size W0 w3 := (b1.trans (b2.mono s1)).trans (b3.mono (by omega))
  have HW3 : Hid (∀ wx, Below w3.heap.size w3 wx → Own wx w2.heap.size v0 F) := fun wx hb => OW.below hb (Nat.le_refl _)
  obtain ⟨⟨x30, x31, x32, x33, x34, x35⟩, _⟩ := HBox.out w3 B3
  clear O2 b2 b3 OW b1 x0 x1 x2 x3 x4 x5
  go_wp2_with fail
  refine (HTo.out w3 B3).mono ?_
  rintro e w4 ⟨o4, c4, vs4, rfl, O4, b4⟩
  have s4 := b4.size
  obtain ⟨w5, hw5⟩ : ∃ w5, w5 = w4.alloc (.cells #[.int .i64 a.T, .int .i64 a.V, .int .i64 a.B, .int .i64 a.BT, .slice o4 rl.length c4, .int .i64 a.G] 50) := ⟨_, rfl⟩
  have b45 : Below w4.heap.size w4 w5 := by rw [hw5]; exact (Below.refl _ _).alloc (Nat.le_refl _) _
  have k5 : w5.heap[w4.heap.size]? = some (.cells #[.int .i64 a.T, .int .i64 a.V, .int .i64 a.B, .int .i64 a.BT, .slice o4 rl.length c4, .int .i64 a.G] 50 (0, 0)) := by rw [hw5]; exact heap_alloc_new w4 _
  have s5 : w5.heap.size = w4.heap.size + 1 := by rw [hw5]; simp
  have O5 : OwnRecs w5 w3.heap.size (.slice o4 rl.length c4) rl vs4 := O4.below b45 (Nat.le_refl _)
  have hI := HImpl.out w5 _ vs4 O5.rd
  rw [hw5] at hI
  clear x30 x31 x32 x33 x34 x35
  go_wp2_with fail
  refine hI.mono ?_
  rw [← hw5]
  rintro e w6 ⟨g0, rfl, OG, b6⟩
  have s6 := b6.size
  have b36 : Below w3.heap.size w3 w6 := b4.trans ((b45.mono s4).trans (b6.mono (by omega)))
  have b46 : Below w4.heap.size w4 w6 := b45.trans (b6.mono (by omega))
  have B6 : Below W0.heap.size W0 w6 := B3.trans (b36.mono (by omega))
  have k6 : w6.heap[w4.heap.size]? = some (.cells #[.int .i64 a.T, .int .i64 a.V, .int .i64 a.B, .int .i64 a.BT, .slice o4 rl.length c4, .int .i64 a.G] 50 (0, 0)) := (b6.block _ (by omega)).trans k5
  have HX : Hid (OwnRecs w4 w3.heap.size (.slice o4 rl.length c4) rl vs4) := O4
  have h64 : w4.heap.size < w6.heap.size := by omega
  clear hI hw5 O5 O4 k5 s5
  go_wp2_with fail
  refine (eq_same _ _ _ F OG.rd (HW3.out _ b36).rd).mono ?_
  rintro e w7 ⟨rfl, n7, rfl⟩
  obtain ⟨⟨y60, y61, y62, y63, y64, y65⟩, _⟩ := HBox.out w6 B6
  have HZ6 : Hid (∀ wx, Below w6.heap.size w6 wx → wx.cell? ⟨w4.heap.size, 0, none⟩ = some (.int .i64 a.T) ∧ wx.cell? ⟨w4.heap.size, 1, none⟩ = some (.int .i64 a.V) ∧ wx.cell? ⟨w4.heap.size, 2, none⟩ = some (.int .i64 a.B) ∧ wx.cell? ⟨w4.heap.size, 3, none⟩ = some (.int .i64 a.BT) ∧ wx.cell? ⟨w4.heap.size, 4, none⟩ = some (.slice o4 rl.length c4) ∧ wx.cell? ⟨w4.heap.size, 5, none⟩ = some (.int .i64 a.G)) := fun wx hb => by
    have k := (hb.block _ h64).trans k6
    exact ⟨cell_of k rfl, cell_of k rfl, cell_of k rfl, cell_of k rfl, cell_of k rfl, cell_of k rfl⟩
  obtain ⟨z60, z61, z62, z63, z64, z65⟩ := HZ6.out w6 (Below.refl _ _)
  have HTo10 : Hid (∀ wx, Below w6.heap.size w6 wx → Calls Try.prog 37 #[.agg #[.int .i64 a.T, .int .i64 a.V, .int .i64 a.B, .int .i64 a.BT, .slice a0 rl.length c0, .int .i64 a.G]] wx fun e w' => ∃ o c vs, e = .returned (.agg #[.int .i64 a.T, .int .i64 a.V, .int .i64 a.B, .int .i64 a.BT, .slice o rl.length c, .int .i64 a.G]) ∧ Hid (OwnRecs w' w6.heap.size (.slice o rl.length c) rl vs ∧ Below w6.heap.size w6 w') ∧ Below w6.heap.size w6 w') := fun wx hx => by
    refine (HTo.out wx (B6.trans (hx.mono (by have := B6.size; omega)))).mono ?_
    rintro e w' ⟨o, c, vs, rfl, hO, hb⟩
    have hb' : Below w6.heap.size w6 w' := hx.trans (hb.mono hx.size)
    have hO := hO.mono hx.size
    exact ⟨o, c, vs, rfl, hide ⟨hO, hb'⟩, hb'⟩
  have HEq10 : Hid (∀ w' o c vs, Hid (OwnRecs w' w6.heap.size (.slice o rl.length c) rl vs ∧ Below w6.heap.size w6 w') → Calls Try.prog 32 #[.agg #[.int .i64 a.T, .int .i64 a.V, .int .i64 a.B, .int .i64 a.BT, .slice o4 rl.length c4, .int .i64 a.G], .agg #[.int .i64 a.T, .int .i64 a.V, .int .i64 a.B, .int .i64 a.BT, .slice o rl.length c, .int .i64 a.G]] w' fun e w'' => e = .returned (.bool true) ∧ Below w6.heap.size w6 w'') := fun w' o c vs h => by
    have hX := HX.out.below (b46.trans (h.out.2.mono (by omega))) (Nat.le_refl _)
    refine (eqWal_same w' a _ _ rl vs4 vs hX.rd h.out.1.rd).mono ?_
    rintro e w'' ⟨rfl, hb⟩
    exact ⟨rfl, h.out.2.trans (hb.mono (by have := h.out.2.size; omega))⟩
  have HKeep : Hid (∀ wx, Below w6.heap.size w6 wx → (wx.cell? ⟨w4.heap.size, 0, none⟩ = some (.int .i64 a.T) ∧ wx.cell? ⟨w4.heap.size, 1, none⟩ = some (.int .i64 a.V) ∧ wx.cell? ⟨w4.heap.size, 2, none⟩ = some (.int .i64 a.B) ∧ wx.cell? ⟨w4.heap.size, 3, none⟩ = some (.int .i64 a.BT) ∧ wx.cell? ⟨w4.heap.size, 4, none⟩ = some (.slice o4 rl.length c4) ∧ wx.cell? ⟨w4.heap.size, 5, none⟩ = some (.int .i64 a.G)) ∧ (wx.cell? ⟨w.heap.size, 0, none⟩ = some (.int .i64 a.T) ∧ wx.cell? ⟨w.heap.size, 1, none⟩ = some (.int .i64 a.V) ∧ wx.cell? ⟨w.heap.size, 2, none⟩ = some (.int .i64 a.B) ∧ wx.cell? ⟨w.heap.size, 3, none⟩ = some (.int .i64 a.BT) ∧ wx.cell? ⟨w.heap.size, 4, none⟩ = some (.slice a0 rl.length c0) ∧ wx.cell? ⟨w.heap.size, 5, none⟩ = some (.int .i64 a.G)) ∧ Below w6.heap.size w6 wx) := fun wx hb => ⟨HZ6.out wx hb, (HBox.out wx (B6.trans (hb.mono (by have := B6.size; omega)))).1, hb⟩
  clear k6
  go_wp2
  go_region_held_law (fun wx => (wx.cell? ⟨w4.heap.size, 0, none⟩ = some (.int .i64 a.T) ∧ wx.cell? ⟨w4.heap.size, 1, none⟩ = some (.int .i64 a.V) ∧ wx.cell? ⟨w4.heap.size, 2, none⟩ = some (.int .i64 a.B) ∧ wx.cell? ⟨w4.heap.size, 3, none⟩ = some (.int .i64 a.BT) ∧ wx.cell? ⟨w4.heap.size, 4, none⟩ = some (.slice o4 rl.length c4) ∧ wx.cell? ⟨w4.heap.size, 5, none⟩ = some (.int .i64 a.G)) ∧ (wx.cell? ⟨w.heap.size, 0, none⟩ = some (.int .i64 a.T) ∧ wx.cell? ⟨w.heap.size, 1, none⟩ = some (.int .i64 a.V) ∧ wx.cell? ⟨w.heap.size, 2, none⟩ = some (.int .i64 a.B) ∧ wx.cell? ⟨w.heap.size, 3, none⟩ = some (.int .i64 a.BT) ∧ wx.cell? ⟨w.heap.size, 4, none⟩ = some (.slice a0 rl.length c0) ∧ wx.cell? ⟨w.heap.size, 5, none⟩ = some (.int .i64 a.G)) ∧ Below w6.heap.size w6 wx)
    ((refine HKeep.out _ ?_; first | assumption | exact (Below.refl _ _).drew | exact (below_drew' (Below.refl _ _) _).drew | exact And.right (And.right (by assumption))))
    (first | (go_at_call 37; refine (HTo10.out _ (by first | assumption | exact And.right (And.right (by assumption)))).mono ?_; rintro e w8 ⟨o8, c8, vs8, rfl, H8, D8⟩) | (go_at_call 32; refine (HEq10.out _ _ _ _ H8).mono ?_; rintro e w9 ⟨rfl, D9⟩))
  all_goals
    have b69 : Below w6.heap.size w6 w9 := D9
    have s9 := b69.size
    have b49 : Below w4.heap.size w4 w9 := b46.trans (b69.mono (by omega))
    have b39 : Below w3.heap.size w3 w9 := b36.trans (b69.mono (by omega))
    have X9 := HX.out.below b49 (Nat.le_refl _)
    obtain ⟨v90, v91, v92, v93, v94, v95⟩ := HZ6.out w9 b69
    have OG9 := OG.below b69 (Nat.le_refl _)
    clear H8 HTo10 HEq10 y60 y61 y62 y63 y64 y65 z60 z61 z62 z63 z64 z65 D8 D9
    have hmq : mAt 1 rl rl.length ≤ 4611686018427387904 := by unfold mAt; rw [← HSum.out]; omega
    have hM0 : 0 ≤ mAt 1 rl rl.length := by unfold mAt; omega
    have hMk := mark_span w9 w3.heap.size w4.heap.size a _ rl vs4 X9 hmq (fun u hu k hp hk => (recs_lt HX.out hp u hu k hk).2) (by omega)
    generalize mAt 1 rl rl.length = M at hMk hM0
    clear hmq
    go_wp2_with fail
    refine hMk.mono ?_
    rintro e w10 ⟨rfl, g10, gO⟩
    have s10 := g10.size
    have b310 : Below w3.heap.size w3 w10 := b39.trans g10
    have OG10 : Own w10 w5.heap.size g0 F := gO b45.size OG9
    have hnk : ¬ M < 0 := by omega
    clear g10 gO X9 OG9 v90 v91 v92 v93 v94 v95 hMk
    go_wp2_with fail
    refine (eq_same _ _ _ F OG10.rd (HW3.out _ b310).rd).mono ?_
    rintro e w11 ⟨rfl, n11, rfl⟩
    go_wp2_with fail
    refine (mark_own _ w5.heap.size g0 1 F (by omega) (by omega) (by exact OG10)).mono ?_
    rintro e w12 ⟨rfl, OG12, g12'⟩
    have g12 : w10.grownBy w12 g0.ownBlock := ⟨g12'.os, g12'.tape, g12'.output, g12'.size, g12'.block⟩
    have s12 := g12.size
    have b312 : Below w3.heap.size w3 w12 := b310.grown g12 (by omega) (fun k hk => by have := (OG.lt k hk).1; have := b45.size; omega)
    have HHeld : Hid (∀ wx, Below w12.heap.size w12 wx → Calls Try.prog 20 #[g0, .int .i64 1] wx fun e w' => e = .returned (.int .i64 (1 + F.length)) ∧ w' = wx) := fun wx hb => held_same wx _ 1 F.length (by omega) (by omega) (OG12.below hb (Nat.le_refl _)).rd
    have B12 : Below W0.heap.size W0 w12 := B3.trans (b312.mono (by omega))
    obtain ⟨⟨x20, x21, x22, x23, x24, x25⟩, _⟩ := HBox.out w12 B12
    have hn1 : ¬ (1 : Int) + F.length < 0 := by omega
    have hne2 : ((1 : Int) + F.length != (1 : Int) + F.length) = false := by simp
    clear OG10 OG12 g12 g12' b310
    go_wp2_with fail
    refine (HHeld.out _ (Below.refl _ _)).mono ?_
    rintro e w13 ⟨rfl, hw13⟩
    have hw13' := hw13.symm
    subst hw13'
    go_wp2_with fail
    refine (HTo.out w12 B12).mono ?_
    rintro e w14 ⟨o14, c14, vs14, rfl, O14, b14⟩
    have s14 := b14.size
    go_wp2_with fail
    refine (HImpl.out w14 _ vs14 O14.rd).mono ?_
    rintro e w15 ⟨h0, rfl, OH, b15⟩
    have b1215 : Below w12.heap.size w12 w15 := b14.trans (b15.mono s14)
    have b315 : Below w3.heap.size w3 w15 := b312.trans (b1215.mono (by omega))
    have BF := (HBox.out w15 (B12.trans (b1215.mono (by omega)))).2
    clear O14 b14 b15 x20 x21 x22 x23 x24 x25
    go_wp2_with fail
    refine (eq_same _ _ _ F OH.rd (HW3.out _ b315).rd).mono ?_
    rintro e w16 ⟨rfl, n16, rfl⟩
    go_wp2_with fail
    refine (HHeld.out _ (by exact below_drew' b1215 _)).mono ?_
    rintro e w17 ⟨rfl, rfl⟩
    go_wp2
    go_ret
    exact ⟨rfl, by exact below_drew' BF _⟩

set_option maxRecDepth 100000 in
theorem lifted (os : Os) (started : os.Started) (H : Type) (enc : TypeId × Value → H) :
    ReturnsInHanded {} Try.checked os 8 .any (Rows.fnExactWalOfSpec.pre6 enc Try.prog Try.f8 Rows.fnExactWalOfRow.domain false) (Rows.fnExactWalOfSpec.post enc Try.prog Try.f8 false true false false) := by
  refine returnsInHanded_of_change (C := Try.checked) own started (by kernel_rfl) Try.func8
    (ChangeSpec.witness6 (enc := enc) (C := Try.checked) false ⟨#[], #[.agg #[.int .i64 0, .int .i64 0, .int .i64 0, .int .i64 0, .slice none 0 0, .int .i64 0]], []⟩ 8 (by kernel_rfl) (by kernel_rfl) (by kernel_rfl) (by kernel_rfl)) ?_
  intro W base args ds gs before hval0 hW hcnd _
  have hval : ∀ (j : Nat) t v, Try.f8.params[j]? = some t → args[j]? = some v → Value.okWide Try.prog W .any base t v := hval0
  have hW' := hW
  obtain ⟨p, q, hA0, hV, rfl, hfz, hnd⟩ := hW
  have hA : DataW.TrodAll enc Try.prog W 0 (fun _ => true) true Try.f8.params.toList args.toList ds p := hA0
  rw [Try.params8] at hA hval
  obtain ⟨v0, vs0, d0, ds0, p0, q0, hargs, rfl, rfl, h0, r0⟩ := trodAll_cons hA
  obtain ⟨rfl, rfl, rfl⟩ := trodAll_nil r0
  obtain rfl : args = #[v0] := by cases args; simp_all
  obtain ⟨rfl, rfl⟩ := trodVars_none hV
  have k0 := h0
  have lt0 : ∀ x ∈ p0, x.block < W.heap.size := by obtain ⟨m, hm⟩ := k0; exact DataW.trod_lt m _ _ _ hm
  obtain ⟨a, u, rl, us, rfl, hu⟩ := open_wal (hval 0 59 v0 rfl rfl) h0
  clear hA0 hval0
  refine (walk W a u rl us hu).mono fun e W' ⟨he, bel⟩ => ?_
  subst he
  exact ⟨_, rfl, _, _, _, [], _, [], hW', trodAll_mk1 (shut_bool Try.underlying4 _), (trodAll_cons_mk (Below.trod laidOut (by kernel_rfl) (of_decide_eq_true (by kernel_rfl)) k0 bel lt0) trodAll_mk0), rfl, bel.frame _, fun h => by cases h⟩

theorem over : Rows.fnExactWalOfRow.holds Try.pinned (OpenSpec.ofChange Rows.fnExactWalOfSpec) :=
  OpenClaim.holds_of_wide 8 Try.f8 rfl rfl rfl rfl rfl rfl rfl ⟨rfl, rfl, rfl, rfl, rfl⟩ rfl rfl rfl rfl rfl (by kernel_rfl) Try.func8 (by kernel_rfl)
    (of_decide_eq_true (by kernel_rfl)) (by unfold Func.isWrapper; first | (rw [if_pos (by decide +kernel)]; kernel_rfl) | (rw [if_neg (by decide +kernel)]; exact ⟨rfl, rfl⟩))
    (fun os started H enc _ => lifted os started H enc)

/-- The statement. -/
theorem proved : Rows.FnExactWalOfSaid := over
#print axioms proved
end Go.Proofs.Ytipcdioolafkpag.fnExactWalOf
