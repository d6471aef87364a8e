/- Through a set of at most one place. -/
import Derived.Test.YtfpeajbfimodfaaGreatDoorNet
import Derived.Deep.RegionHeldLaw
import Derived.BigRegion
namespace Go.Proofs.YtfpeajbfimodfaaGreatDoor.thr
open Go.ChangeShapes Go.WideShapes Go.ChangeAt Go.RowKit
open Go.Proofs.YtfpeajbfimodfaaGreatDoor.bytes Go.Proofs.YtfpeajbfimodfaaGreatDoor.letters Go.Proofs.YtfpeajbfimodfaaGreatDoor.read Go.Proofs.YtfpeajbfimodfaaGreatDoor.places Go.Proofs.YtfpeajbfimodfaaGreatDoor.sets Go.Proofs.YtfpeajbfimodfaaGreatDoor.leaf Go.Proofs.YtfpeajbfimodfaaGreatDoor.tz Go.Proofs.YtfpeajbfimodfaaGreatDoor.net
set_option linter.unusedVariables false

/-- Within through: the net, and the variables. -/
structure SL (g : Gr) (k : Nat) (R : Rws) (w : World) (x : Nat) (W : World) : Prop where
  st : St g k R w (w.heap.size + 3) W
  res : C2 W (w.heap.size + 1) 0
  out : C2 W (w.heap.size + 2) x
theorem SL.drew {g : Gr} (hg : Geo g) {k : Nat} {R : Rws} {w W : World} {x : Nat} (hN : Net g R w) (h : SL g k R w x W) : SL g k R w x W.drew := ⟨h.st.drew hg hN, h.res, h.out⟩
theorem SL.below {g : Gr} (hg : Geo g) {k : Nat} {R : Rws} {w W W' : World} {x : Nat} (hN : Net g R w) (h : SL g k R w x W) (hb : Below W.heap.size W W') : SL g k R w x W' := by
  have := h.st.hi
  exact ⟨h.st.below hg hN hb, (hb.block _ (by omega)).trans h.res, (hb.block _ (by omega)).trans h.out⟩
theorem SL.put {g : Gr} (hg : Geo g) {k : Nat} {R : Rws} {w W : World} {x : Nat} (hN : Net g R w) (h : SL g k R w x W) (X : Nat) : SL g k R w X ((W.setCell ⟨w.heap.size + 1 + 1, 0, none⟩ (.int .u64 (X : Nat))).setCell ⟨w.heap.size + 1 + 1, 1, none⟩ (.int .u64 0)) := by
  refine ⟨St.store hg hN (St.store hg hN h.st _ (by simp; omega) (by simp) _) _ (by simp; omega) (by simp) _, ?_, two_end h.out X⟩
  unfold C2
  rw [Below.heap_setCell _ _ _ _ (by simp), Below.heap_setCell _ _ _ _ (by simp)]
  exact h.res
theorem SL.done {g : Gr} (hg : Geo g) {k : Nat} {R : Rws} {w W : World} {x : Nat} (hN : Net g R w) (h : SL g k R w x W) (X : Nat) : C2 ((W.setCell ⟨w.heap.size + 1, 0, none⟩ (.int .u64 (X : Nat))).setCell ⟨w.heap.size + 1, 1, none⟩ (.int .u64 0)) (w.heap.size + 1) X ∧ St g k R w w.heap.size ((W.setCell ⟨w.heap.size + 1, 0, none⟩ (.int .u64 (X : Nat))).setCell ⟨w.heap.size + 1, 1, none⟩ (.int .u64 0)) := by
  refine ⟨two_end h.res X, St.out (St.store hg hN (St.store hg hN h.st _ (by simp) (by simp) _) _ (by simp) (by simp) _)⟩
theorem and_pred (e : Nat) (he : e ≤ 22) : bits .and .u64 ((2 ^ e : Nat) : Int) (((2 ^ e : Nat) : Int) - 1) = 0 := by
  rcases (show e = 0 ∨ e = 1 ∨ e = 2 ∨ e = 3 ∨ e = 4 ∨ e = 5 ∨ e = 6 ∨ e = 7 ∨ e = 8 ∨ e = 9 ∨ e = 10 ∨ e = 11 ∨ e = 12 ∨ e = 13 ∨ e = 14 ∨ e = 15 ∨ e = 16 ∨ e = 17 ∨ e = 18 ∨ e = 19 ∨ e = 20 ∨ e = 21 ∨ e = 22 by omega) with rfl | rfl | rfl | rfl | rfl | rfl | rfl | rfl | rfl | rfl | rfl | rfl | rfl | rfl | rfl | rfl | rfl | rfl | rfl | rfl | rfl | rfl | rfl <;> decide +kernel
theorem ix0 (x y : Int) (W : World) : Sem.run Tryz.prog (Instr.index 87 (.agg #[.int .u64 x, .int .u64 y]) (.int .i64 0)) W = .ok (.int .u64 x) W := by kernel_rfl
theorem ix1 (x y : Int) (W : World) : Sem.run Tryz.prog (Instr.index 87 (.agg #[.int .u64 x, .int .u64 y]) (.int .i64 1)) W = .ok (.int .u64 y) W := by kernel_rfl
set_option maxRecDepth 20000 in
set_option maxHeartbeats 4000000 in
theorem through56 (g : Gr) (hg : Geo g) (k e X : Nat) (he : e ≤ 22) (hX : X < 18446744073709551616) (hA : Asks g k 56 #[.int .i64 (e : Nat)] X) : Asks g k 60 #[psV (2 ^ e), .func (.func 56) #[] #[]] X := by
  intro R w hN
  have hand := and_pred e he
  have hpos : 0 < 2 ^ e := Nat.pow_pos (by decide)
  have hlt := pow_lt64 he
  obtain ⟨W3, hW3⟩ : ∃ W3, W3 = ((w.alloc (.cells #[.int .u64 ((2 ^ e : Nat) : Int), .int .u64 0] 87)).alloc (.cells #[.int .u64 0, .int .u64 0] 87)).alloc (.cells #[.int .u64 0, .int .u64 0] 87) := ⟨_, rfl⟩
  have HS : Hid (SL g k R w 0 W3 ∧ C2 W3 w.heap.size (2 ^ e)) := by
    have hB : Below w.heap.size w W3 := by
      rw [hW3]
      exact (((Below.refl _ _).alloc (Nat.le_refl _) _).alloc (by simp) _).alloc (by simp; omega) _
    have hz : W3.heap.size = w.heap.size + 3 := by rw [hW3]; simp
    refine hide ⟨⟨?_, ?_, ?_⟩, ?_⟩
    · have := hN.st hg k hB
      rw [hz] at this
      exact this
    · rw [hW3]
      unfold C2
      rw [Below.heap_alloc _ _ _ (by simp)]
      have h := heap_alloc_new (w.alloc (.cells #[.int .u64 ((2 ^ e : Nat) : Int), .int .u64 0] 87)) (.cells #[.int .u64 0, .int .u64 0] 87)
      rw [show (w.alloc (.cells #[.int .u64 ((2 ^ e : Nat) : Int), .int .u64 0] 87)).heap.size = w.heap.size + 1 by simp] at h
      exact h
    · rw [hW3]
      have h := heap_alloc_new ((w.alloc (.cells #[.int .u64 ((2 ^ e : Nat) : Int), .int .u64 0] 87)).alloc (.cells #[.int .u64 0, .int .u64 0] 87)) (.cells #[.int .u64 0, .int .u64 0] 87)
      rw [show ((w.alloc (.cells #[.int .u64 ((2 ^ e : Nat) : Int), .int .u64 0] 87)).alloc (.cells #[.int .u64 0, .int .u64 0] 87)).heap.size = w.heap.size + 2 by simp] at h
      exact h
    · rw [hW3]
      unfold C2
      rw [Below.heap_alloc _ _ _ (by simp; omega), Below.heap_alloc _ _ _ (by simp)]
      exact heap_alloc_new w _
  have HT : Hid (∀ W, SL g k R w 0 W → Calls Tryz.prog 79 #[.int .u64 ((2 ^ e : Nat) : Int)] W fun r w' => r = .returned (.int .i64 (e : Int)) ∧ SL g k R w 0 w') := hide (fun W h => (tz_any W e he h.st.net.tab).mono (by rintro r w' ⟨h1, rfl⟩; exact ⟨h1, h⟩))
  have HA : Hid (∀ W, SL g k R w 0 W → Calls Tryz.prog 56 #[.int .i64 (e : Nat)] W fun r w' => r = .returned (psV X) ∧ SL g k R w 0 w') := by
    refine hide (fun W h => (hA.use hg (Nat.le_refl k) hN W h.st).mono ?_)
    rintro r w' ⟨h1, h2, h3, h4⟩
    exact ⟨h1, h2, (h3 _ (by omega) (by omega)).trans h.res, (h3 _ (by omega) (by omega)).trans h.out⟩
  have HW : Hid (∀ W, SL g k R w 0 W → Calls Tryz.prog 64 #[.agg #[.int .u64 0, .int .u64 0], psV X] W fun r w' => r = .returned (psV X) ∧ SL g k R w 0 w') := by
    refine hide (fun W h => ?_)
    have hw := with_any W 0 X (by decide) hX
    rw [Nat.zero_or] at hw
    exact hw.mono (by rintro r w' ⟨h1, h2⟩; exact ⟨h1, h.below hg hN h2⟩)
  have HPut : Hid (∀ W, SL g k R w 0 W → SL g k R w X ((W.setCell ⟨w.heap.size + 1 + 1, 0, none⟩ (.int .u64 (X : Nat))).setCell ⟨w.heap.size + 1 + 1, 1, none⟩ (.int .u64 0))) := hide (fun W h => h.put hg hN X)
  have HD : Hid (∀ x W, SL g k R w x W → SL g k R w x W.drew) := hide (fun x W h => h.drew hg hN)
  unfold psV at HA HW ⊢
  generalize 2 ^ e = b at hand hpos hlt HS HT hW3 ⊢
  have hsub : IntKind.u64.wrap ((b : Int) - 1) = (b : Int) - 1 := by rw [IntKind.wrap_u64]; omega
  have hne : ((b : Int) != 0) = true := by simp; omega
  have hne' : ¬ (b : Int) = 0 := by omega
  clear hA
  have hi0 := ix0
  have hw0 : IntKind.i64.wrap 0 = 0 := by decide
  have hwe : IntKind.i64.wrap (e : Int) = e := by rw [IntKind.wrap_i64]; omega
  have hi1 := ix1
  have q0 := HS.out.2.c0
  have q1 := HS.out.2.c1
  go_enter Tryz.func60, Tryz.ntmps60
  go_wp2
  rw [← hW3]
  clear hW3
  go_loopw [6, 7, 9] (fun v6 v7 iv wr => ∃ x : Nat, ((iv = .int .i64 0 ∧ x = 0) ∨ (iv = .int .i64 1 ∧ x = X) ∨ (iv = .int .i64 2 ∧ x = X)) ∧ Hid (SL g k R w x wr)) (fun _ _ iv _ => 2 - (intOf iv).toNat)
  case atStart => exact ⟨0, .inl ⟨rfl, rfl⟩, hide HS.out.1⟩
  case round =>
    obtain ⟨x, hix, HX⟩ := hrel
    clear HS
    rcases hix with ⟨rfl, rfl⟩ | ⟨rfl, rfl⟩ | ⟨rfl, rfl⟩
    · go_wp2
      go_loopw [7] (fun v7 wr => (v7 = .int .u64 (b : Int) ∧ Hid (SL g k R w 0 wr)) ∨ (v7 = .int .u64 0 ∧ Hid (SL g k R w X wr))) (fun v7 _ => (intOf v7).toNat)
      case atStart => exact .inl ⟨rfl, HX⟩
      case round =>
        rcases hrel with ⟨rfl, HY⟩ | ⟨rfl, HY⟩
        · have o0 := HY.out.out.c0
          have o1 := HY.out.out.c1
          have f0 := HY.out.out.fz 0
          have f1 := HY.out.out.fz 1
          have hS0 := HY.out
          clear HX HY
          go_wp2
          go_region_law (first | (go_simp; go_at_call 79; with_reducible (refine (HT.out _ ?_).mono ?_); (first | exact hS0 | exact HD.out _ _ hS0 | assumption); rintro r w1 ⟨rfl, hS1⟩; have a0 := hS1.out.c0; have a1 := hS1.out.c1; have b0 := hS1.out.fz 0; have b1 := hS1.out.fz 1) | (go_simp; go_at_call 64; with_reducible (refine (HW.out _ ?_).mono ?_); (first | exact hS2 | exact HD.out _ _ hS2 | assumption); rintro r w3 ⟨rfl, hS3⟩; have e0 := hS3.out.c0; have e1 := hS3.out.c1; have h0 := hS3.out.fz 0; have h1 := hS3.out.fz 1) | (go_simp; go_at_call 56; with_reducible (refine (HA.out _ ?_).mono ?_); (first | exact hS1 | exact HD.out _ _ hS1 | assumption); rintro r w2 ⟨rfl, hS2⟩; have c0 := hS2.out.c0; have c1 := hS2.out.c1; have d0 := hS2.out.fz 0; have d1 := hS2.out.fz 1))
          all_goals
            have hS4 := HPut.out w3 hS3
            generalize (w3.setCell ⟨w.heap.size + 1 + 1, 0, none⟩ (.int .u64 (X : Nat))).setCell ⟨w.heap.size + 1 + 1, 1, none⟩ (.int .u64 0) = w4 at hS4 ⊢
            have HS4 := hide hS4
            clear hS3 hS2 hS1 hS0 hS4 HA HW HT
            go_wp2
            go_roundw
            case rel => exact .inr ⟨rfl, HS4⟩
            case measure => simp [intOf]; omega
        · go_wp2
          go_roundw
          case rel => exact ⟨X, .inr (.inl ⟨rfl, rfl⟩), HY⟩
          case measure => simp [intOf]
    · go_wp2
      go_loopw [7] (fun v7 wr => (v7 = .int .u64 0 ∧ Hid (SL g k R w x wr))) (fun v7 _ => 0)
      case atStart => exact ⟨rfl, HX⟩
      case round =>
        obtain ⟨rfl, HY⟩ := hrel
        go_wp2
        go_roundw
        case rel => exact ⟨x, .inr (.inr ⟨rfl, rfl⟩), HY⟩
        case measure => simp [intOf]
    · have o0 := HX.out.out.c0
      have o1 := HX.out.out.c1
      have f0 := HX.out.res.fz 0
      have f1 := HX.out.res.fz 1
      have g0 := HX.out.res.c0
      have g1 := HX.out.res.c1
      have HE := hide (SL.done hg hN HX.out x)
      clear HX HA HW HT HPut
      go_wp2
      exact bodyPost_ret (results_cell_row rfl _ _ (w.heap.size + 1) 87 _ (0, 0) _ rfl HE.out.1 Tryz.underlying87 rfl (size87.trans (by simp))) rfl ⟨rfl, HE.out.2⟩
set_option maxRecDepth 20000 in
set_option maxHeartbeats 4000000 in
theorem through83 (g : Gr) (hg : Geo g) (k e X : Nat) (p0 p1 : Nat) (he : e ≤ 22) (hX : X < 18446744073709551616) (hA : Asks g k 83 #[.int .i64 (e : Nat), .pointer (some ⟨p0, 0, none⟩), .pointer (some ⟨p1, 0, none⟩)] X) : Asks g k 60 #[psV (2 ^ e), .func (.func 83) #[] #[.pointer (some ⟨p0, 0, none⟩), .pointer (some ⟨p1, 0, none⟩)]] X := by
  intro R w hN
  have hand := and_pred e he
  have hpos : 0 < 2 ^ e := Nat.pow_pos (by decide)
  have hlt := pow_lt64 he
  obtain ⟨W3, hW3⟩ : ∃ W3, W3 = ((w.alloc (.cells #[.int .u64 ((2 ^ e : Nat) : Int), .int .u64 0] 87)).alloc (.cells #[.int .u64 0, .int .u64 0] 87)).alloc (.cells #[.int .u64 0, .int .u64 0] 87) := ⟨_, rfl⟩
  have HS : Hid (SL g k R w 0 W3 ∧ C2 W3 w.heap.size (2 ^ e)) := by
    have hB : Below w.heap.size w W3 := by
      rw [hW3]
      exact (((Below.refl _ _).alloc (Nat.le_refl _) _).alloc (by simp) _).alloc (by simp; omega) _
    have hz : W3.heap.size = w.heap.size + 3 := by rw [hW3]; simp
    refine hide ⟨⟨?_, ?_, ?_⟩, ?_⟩
    · have := hN.st hg k hB
      rw [hz] at this
      exact this
    · rw [hW3]
      unfold C2
      rw [Below.heap_alloc _ _ _ (by simp)]
      have h := heap_alloc_new (w.alloc (.cells #[.int .u64 ((2 ^ e : Nat) : Int), .int .u64 0] 87)) (.cells #[.int .u64 0, .int .u64 0] 87)
      rw [show (w.alloc (.cells #[.int .u64 ((2 ^ e : Nat) : Int), .int .u64 0] 87)).heap.size = w.heap.size + 1 by simp] at h
      exact h
    · rw [hW3]
      have h := heap_alloc_new ((w.alloc (.cells #[.int .u64 ((2 ^ e : Nat) : Int), .int .u64 0] 87)).alloc (.cells #[.int .u64 0, .int .u64 0] 87)) (.cells #[.int .u64 0, .int .u64 0] 87)
      rw [show ((w.alloc (.cells #[.int .u64 ((2 ^ e : Nat) : Int), .int .u64 0] 87)).alloc (.cells #[.int .u64 0, .int .u64 0] 87)).heap.size = w.heap.size + 2 by simp] at h
      exact h
    · rw [hW3]
      unfold C2
      rw [Below.heap_alloc _ _ _ (by simp; omega), Below.heap_alloc _ _ _ (by simp)]
      exact heap_alloc_new w _
  have HT : Hid (∀ W, SL g k R w 0 W → Calls Tryz.prog 79 #[.int .u64 ((2 ^ e : Nat) : Int)] W fun r w' => r = .returned (.int .i64 (e : Int)) ∧ SL g k R w 0 w') := hide (fun W h => (tz_any W e he h.st.net.tab).mono (by rintro r w' ⟨h1, rfl⟩; exact ⟨h1, h⟩))
  have HA : Hid (∀ W, SL g k R w 0 W → Calls Tryz.prog 83 #[.int .i64 (e : Nat), .pointer (some ⟨p0, 0, none⟩), .pointer (some ⟨p1, 0, none⟩)] W fun r w' => r = .returned (psV X) ∧ SL g k R w 0 w') := by
    refine hide (fun W h => (hA.use hg (Nat.le_refl k) hN W h.st).mono ?_)
    rintro r w' ⟨h1, h2, h3, h4⟩
    exact ⟨h1, h2, (h3 _ (by omega) (by omega)).trans h.res, (h3 _ (by omega) (by omega)).trans h.out⟩
  have HW : Hid (∀ W, SL g k R w 0 W → Calls Tryz.prog 64 #[.agg #[.int .u64 0, .int .u64 0], psV X] W fun r w' => r = .returned (psV X) ∧ SL g k R w 0 w') := by
    refine hide (fun W h => ?_)
    have hw := with_any W 0 X (by decide) hX
    rw [Nat.zero_or] at hw
    exact hw.mono (by rintro r w' ⟨h1, h2⟩; exact ⟨h1, h.below hg hN h2⟩)
  have HPut : Hid (∀ W, SL g k R w 0 W → SL g k R w X ((W.setCell ⟨w.heap.size + 1 + 1, 0, none⟩ (.int .u64 (X : Nat))).setCell ⟨w.heap.size + 1 + 1, 1, none⟩ (.int .u64 0))) := hide (fun W h => h.put hg hN X)
  have HD : Hid (∀ x W, SL g k R w x W → SL g k R w x W.drew) := hide (fun x W h => h.drew hg hN)
  unfold psV at HA HW ⊢
  generalize 2 ^ e = b at hand hpos hlt HS HT hW3 ⊢
  have hsub : IntKind.u64.wrap ((b : Int) - 1) = (b : Int) - 1 := by rw [IntKind.wrap_u64]; omega
  have hne : ((b : Int) != 0) = true := by simp; omega
  have hne' : ¬ (b : Int) = 0 := by omega
  clear hA
  have hi0 := ix0
  have hw0 : IntKind.i64.wrap 0 = 0 := by decide
  have hwe : IntKind.i64.wrap (e : Int) = e := by rw [IntKind.wrap_i64]; omega
  have hi1 := ix1
  have q0 := HS.out.2.c0
  have q1 := HS.out.2.c1
  go_enter Tryz.func60, Tryz.ntmps60
  go_wp2
  rw [← hW3]
  clear hW3
  go_loopw [6, 7, 9] (fun v6 v7 iv wr => ∃ x : Nat, ((iv = .int .i64 0 ∧ x = 0) ∨ (iv = .int .i64 1 ∧ x = X) ∨ (iv = .int .i64 2 ∧ x = X)) ∧ Hid (SL g k R w x wr)) (fun _ _ iv _ => 2 - (intOf iv).toNat)
  case atStart => exact ⟨0, .inl ⟨rfl, rfl⟩, hide HS.out.1⟩
  case round =>
    obtain ⟨x, hix, HX⟩ := hrel
    clear HS
    rcases hix with ⟨rfl, rfl⟩ | ⟨rfl, rfl⟩ | ⟨rfl, rfl⟩
    · go_wp2
      go_loopw [7] (fun v7 wr => (v7 = .int .u64 (b : Int) ∧ Hid (SL g k R w 0 wr)) ∨ (v7 = .int .u64 0 ∧ Hid (SL g k R w X wr))) (fun v7 _ => (intOf v7).toNat)
      case atStart => exact .inl ⟨rfl, HX⟩
      case round =>
        rcases hrel with ⟨rfl, HY⟩ | ⟨rfl, HY⟩
        · have o0 := HY.out.out.c0
          have o1 := HY.out.out.c1
          have f0 := HY.out.out.fz 0
          have f1 := HY.out.out.fz 1
          have hS0 := HY.out
          clear HX HY
          go_wp2
          go_region_law (first | (go_simp; go_at_call 79; with_reducible (refine (HT.out _ ?_).mono ?_); (first | exact hS0 | exact HD.out _ _ hS0 | assumption); rintro r w1 ⟨rfl, hS1⟩; have a0 := hS1.out.c0; have a1 := hS1.out.c1; have b0 := hS1.out.fz 0; have b1 := hS1.out.fz 1) | (go_simp; go_at_call 64; with_reducible (refine (HW.out _ ?_).mono ?_); (first | exact hS2 | exact HD.out _ _ hS2 | assumption); rintro r w3 ⟨rfl, hS3⟩; have e0 := hS3.out.c0; have e1 := hS3.out.c1; have h0 := hS3.out.fz 0; have h1 := hS3.out.fz 1) | (go_simp; go_at_call 83; with_reducible (refine (HA.out _ ?_).mono ?_); (first | exact hS1 | exact HD.out _ _ hS1 | assumption); rintro r w2 ⟨rfl, hS2⟩; have c0 := hS2.out.c0; have c1 := hS2.out.c1; have d0 := hS2.out.fz 0; have d1 := hS2.out.fz 1))
          all_goals
            have hS4 := HPut.out w3 hS3
            generalize (w3.setCell ⟨w.heap.size + 1 + 1, 0, none⟩ (.int .u64 (X : Nat))).setCell ⟨w.heap.size + 1 + 1, 1, none⟩ (.int .u64 0) = w4 at hS4 ⊢
            have HS4 := hide hS4
            clear hS3 hS2 hS1 hS0 hS4 HA HW HT
            go_wp2
            go_roundw
            case rel => exact .inr ⟨rfl, HS4⟩
            case measure => simp [intOf]; omega
        · go_wp2
          go_roundw
          case rel => exact ⟨X, .inr (.inl ⟨rfl, rfl⟩), HY⟩
          case measure => simp [intOf]
    · go_wp2
      go_loopw [7] (fun v7 wr => (v7 = .int .u64 0 ∧ Hid (SL g k R w x wr))) (fun v7 _ => 0)
      case atStart => exact ⟨rfl, HX⟩
      case round =>
        obtain ⟨rfl, HY⟩ := hrel
        go_wp2
        go_roundw
        case rel => exact ⟨x, .inr (.inr ⟨rfl, rfl⟩), HY⟩
        case measure => simp [intOf]
    · have o0 := HX.out.out.c0
      have o1 := HX.out.out.c1
      have f0 := HX.out.res.fz 0
      have f1 := HX.out.res.fz 1
      have g0 := HX.out.res.c0
      have g1 := HX.out.res.c1
      have HE := hide (SL.done hg hN HX.out x)
      clear HX HA HW HT HPut
      go_wp2
      exact bodyPost_ret (results_cell_row rfl _ _ (w.heap.size + 1) 87 _ (0, 0) _ rfl HE.out.1 Tryz.underlying87 rfl (size87.trans (by simp))) rfl ⟨rfl, HE.out.2⟩
set_option maxRecDepth 20000 in
set_option maxHeartbeats 4000000 in
theorem through78 (g : Gr) (hg : Geo g) (k e X : Nat) (p0 p1 p2 p3 : Nat) (he : e ≤ 22) (hX : X < 18446744073709551616) (hA : Asks g k 78 #[.int .i64 (e : Nat), .pointer (some ⟨p0, 0, none⟩), .pointer (some ⟨p1, 0, none⟩), .pointer (some ⟨p2, 0, none⟩), .pointer (some ⟨p3, 0, none⟩)] X) : Asks g k 60 #[psV (2 ^ e), .func (.func 78) #[] #[.pointer (some ⟨p0, 0, none⟩), .pointer (some ⟨p1, 0, none⟩), .pointer (some ⟨p2, 0, none⟩), .pointer (some ⟨p3, 0, none⟩)]] X := by
  intro R w hN
  have hand := and_pred e he
  have hpos : 0 < 2 ^ e := Nat.pow_pos (by decide)
  have hlt := pow_lt64 he
  obtain ⟨W3, hW3⟩ : ∃ W3, W3 = ((w.alloc (.cells #[.int .u64 ((2 ^ e : Nat) : Int), .int .u64 0] 87)).alloc (.cells #[.int .u64 0, .int .u64 0] 87)).alloc (.cells #[.int .u64 0, .int .u64 0] 87) := ⟨_, rfl⟩
  have HS : Hid (SL g k R w 0 W3 ∧ C2 W3 w.heap.size (2 ^ e)) := by
    have hB : Below w.heap.size w W3 := by
      rw [hW3]
      exact (((Below.refl _ _).alloc (Nat.le_refl _) _).alloc (by simp) _).alloc (by simp; omega) _
    have hz : W3.heap.size = w.heap.size + 3 := by rw [hW3]; simp
    refine hide ⟨⟨?_, ?_, ?_⟩, ?_⟩
    · have := hN.st hg k hB
      rw [hz] at this
      exact this
    · rw [hW3]
      unfold C2
      rw [Below.heap_alloc _ _ _ (by simp)]
      have h := heap_alloc_new (w.alloc (.cells #[.int .u64 ((2 ^ e : Nat) : Int), .int .u64 0] 87)) (.cells #[.int .u64 0, .int .u64 0] 87)
      rw [show (w.alloc (.cells #[.int .u64 ((2 ^ e : Nat) : Int), .int .u64 0] 87)).heap.size = w.heap.size + 1 by simp] at h
      exact h
    · rw [hW3]
      have h := heap_alloc_new ((w.alloc (.cells #[.int .u64 ((2 ^ e : Nat) : Int), .int .u64 0] 87)).alloc (.cells #[.int .u64 0, .int .u64 0] 87)) (.cells #[.int .u64 0, .int .u64 0] 87)
      rw [show ((w.alloc (.cells #[.int .u64 ((2 ^ e : Nat) : Int), .int .u64 0] 87)).alloc (.cells #[.int .u64 0, .int .u64 0] 87)).heap.size = w.heap.size + 2 by simp] at h
      exact h
    · rw [hW3]
      unfold C2
      rw [Below.heap_alloc _ _ _ (by simp; omega), Below.heap_alloc _ _ _ (by simp)]
      exact heap_alloc_new w _
  have HT : Hid (∀ W, SL g k R w 0 W → Calls Tryz.prog 79 #[.int .u64 ((2 ^ e : Nat) : Int)] W fun r w' => r = .returned (.int .i64 (e : Int)) ∧ SL g k R w 0 w') := hide (fun W h => (tz_any W e he h.st.net.tab).mono (by rintro r w' ⟨h1, rfl⟩; exact ⟨h1, h⟩))
  have HA : Hid (∀ W, SL g k R w 0 W → Calls Tryz.prog 78 #[.int .i64 (e : Nat), .pointer (some ⟨p0, 0, none⟩), .pointer (some ⟨p1, 0, none⟩), .pointer (some ⟨p2, 0, none⟩), .pointer (some ⟨p3, 0, none⟩)] W fun r w' => r = .returned (psV X) ∧ SL g k R w 0 w') := by
    refine hide (fun W h => (hA.use hg (Nat.le_refl k) hN W h.st).mono ?_)
    rintro r w' ⟨h1, h2, h3, h4⟩
    exact ⟨h1, h2, (h3 _ (by omega) (by omega)).trans h.res, (h3 _ (by omega) (by omega)).trans h.out⟩
  have HW : Hid (∀ W, SL g k R w 0 W → Calls Tryz.prog 64 #[.agg #[.int .u64 0, .int .u64 0], psV X] W fun r w' => r = .returned (psV X) ∧ SL g k R w 0 w') := by
    refine hide (fun W h => ?_)
    have hw := with_any W 0 X (by decide) hX
    rw [Nat.zero_or] at hw
    exact hw.mono (by rintro r w' ⟨h1, h2⟩; exact ⟨h1, h.below hg hN h2⟩)
  have HPut : Hid (∀ W, SL g k R w 0 W → SL g k R w X ((W.setCell ⟨w.heap.size + 1 + 1, 0, none⟩ (.int .u64 (X : Nat))).setCell ⟨w.heap.size + 1 + 1, 1, none⟩ (.int .u64 0))) := hide (fun W h => h.put hg hN X)
  have HD : Hid (∀ x W, SL g k R w x W → SL g k R w x W.drew) := hide (fun x W h => h.drew hg hN)
  unfold psV at HA HW ⊢
  generalize 2 ^ e = b at hand hpos hlt HS HT hW3 ⊢
  have hsub : IntKind.u64.wrap ((b : Int) - 1) = (b : Int) - 1 := by rw [IntKind.wrap_u64]; omega
  have hne : ((b : Int) != 0) = true := by simp; omega
  have hne' : ¬ (b : Int) = 0 := by omega
  clear hA
  have hi0 := ix0
  have hw0 : IntKind.i64.wrap 0 = 0 := by decide
  have hwe : IntKind.i64.wrap (e : Int) = e := by rw [IntKind.wrap_i64]; omega
  have hi1 := ix1
  have q0 := HS.out.2.c0
  have q1 := HS.out.2.c1
  go_enter Tryz.func60, Tryz.ntmps60
  go_wp2
  rw [← hW3]
  clear hW3
  go_loopw [6, 7, 9] (fun v6 v7 iv wr => ∃ x : Nat, ((iv = .int .i64 0 ∧ x = 0) ∨ (iv = .int .i64 1 ∧ x = X) ∨ (iv = .int .i64 2 ∧ x = X)) ∧ Hid (SL g k R w x wr)) (fun _ _ iv _ => 2 - (intOf iv).toNat)
  case atStart => exact ⟨0, .inl ⟨rfl, rfl⟩, hide HS.out.1⟩
  case round =>
    obtain ⟨x, hix, HX⟩ := hrel
    clear HS
    rcases hix with ⟨rfl, rfl⟩ | ⟨rfl, rfl⟩ | ⟨rfl, rfl⟩
    · go_wp2
      go_loopw [7] (fun v7 wr => (v7 = .int .u64 (b : Int) ∧ Hid (SL g k R w 0 wr)) ∨ (v7 = .int .u64 0 ∧ Hid (SL g k R w X wr))) (fun v7 _ => (intOf v7).toNat)
      case atStart => exact .inl ⟨rfl, HX⟩
      case round =>
        rcases hrel with ⟨rfl, HY⟩ | ⟨rfl, HY⟩
        · have o0 := HY.out.out.c0
          have o1 := HY.out.out.c1
          have f0 := HY.out.out.fz 0
          have f1 := HY.out.out.fz 1
          have hS0 := HY.out
          clear HX HY
          go_wp2
          go_region_law (first | (go_simp; go_at_call 79; with_reducible (refine (HT.out _ ?_).mono ?_); (first | exact hS0 | exact HD.out _ _ hS0 | assumption); rintro r w1 ⟨rfl, hS1⟩; have a0 := hS1.out.c0; have a1 := hS1.out.c1; have b0 := hS1.out.fz 0; have b1 := hS1.out.fz 1) | (go_simp; go_at_call 64; with_reducible (refine (HW.out _ ?_).mono ?_); (first | exact hS2 | exact HD.out _ _ hS2 | assumption); rintro r w3 ⟨rfl, hS3⟩; have e0 := hS3.out.c0; have e1 := hS3.out.c1; have h0 := hS3.out.fz 0; have h1 := hS3.out.fz 1) | (go_simp; go_at_call 78; with_reducible (refine (HA.out _ ?_).mono ?_); (first | exact hS1 | exact HD.out _ _ hS1 | assumption); rintro r w2 ⟨rfl, hS2⟩; have c0 := hS2.out.c0; have c1 := hS2.out.c1; have d0 := hS2.out.fz 0; have d1 := hS2.out.fz 1))
          all_goals
            have hS4 := HPut.out w3 hS3
            generalize (w3.setCell ⟨w.heap.size + 1 + 1, 0, none⟩ (.int .u64 (X : Nat))).setCell ⟨w.heap.size + 1 + 1, 1, none⟩ (.int .u64 0) = w4 at hS4 ⊢
            have HS4 := hide hS4
            clear hS3 hS2 hS1 hS0 hS4 HA HW HT
            go_wp2
            go_roundw
            case rel => exact .inr ⟨rfl, HS4⟩
            case measure => simp [intOf]; omega
        · go_wp2
          go_roundw
          case rel => exact ⟨X, .inr (.inl ⟨rfl, rfl⟩), HY⟩
          case measure => simp [intOf]
    · go_wp2
      go_loopw [7] (fun v7 wr => (v7 = .int .u64 0 ∧ Hid (SL g k R w x wr))) (fun v7 _ => 0)
      case atStart => exact ⟨rfl, HX⟩
      case round =>
        obtain ⟨rfl, HY⟩ := hrel
        go_wp2
        go_roundw
        case rel => exact ⟨x, .inr (.inr ⟨rfl, rfl⟩), HY⟩
        case measure => simp [intOf]
    · have o0 := HX.out.out.c0
      have o1 := HX.out.out.c1
      have f0 := HX.out.res.fz 0
      have f1 := HX.out.res.fz 1
      have g0 := HX.out.res.c0
      have g1 := HX.out.res.c1
      have HE := hide (SL.done hg hN HX.out x)
      clear HX HA HW HT HPut
      go_wp2
      exact bodyPost_ret (results_cell_row rfl _ _ (w.heap.size + 1) 87 _ (0, 0) _ rfl HE.out.1 Tryz.underlying87 rfl (size87.trans (by simp))) rfl ⟨rfl, HE.out.2⟩
set_option maxHeartbeats 4000000 in
theorem through_none (w : World) (v : Value) (hv : v.oneCell' = true) :
    Calls Tryz.prog 60 #[psV 0, v] w fun e w' => e = .returned (psV 0) ∧ Below w.heap.size w w' := by
  unfold psV
  have hi0 := ix0
  have hi1 := ix1
  obtain ⟨W3, hW3⟩ : ∃ W3, W3 = ((w.alloc (.cells #[.int .u64 0, .int .u64 0] 87)).alloc (.cells #[.int .u64 0, .int .u64 0] 87)).alloc (.cells #[.int .u64 0, .int .u64 0] 87) := ⟨_, rfl⟩
  have HS : Hid (C2 W3 (w.heap.size + 1) 0 ∧ C2 W3 (w.heap.size + 2) 0 ∧ Below w.heap.size w W3) := by
    rw [hW3]
    refine hide ⟨?_, ?_, (((Below.refl _ _).alloc (Nat.le_refl _) _).alloc (by simp) _).alloc (by simp; omega) _⟩
    · unfold C2
      rw [Below.heap_alloc _ _ _ (by simp)]
      have h := heap_alloc_new (w.alloc (.cells #[.int .u64 0, .int .u64 0] 87)) (.cells #[.int .u64 0, .int .u64 0] 87)
      rw [show (w.alloc (.cells #[.int .u64 0, .int .u64 0] 87)).heap.size = w.heap.size + 1 by simp] at h
      exact h
    · have h := heap_alloc_new ((w.alloc (.cells #[.int .u64 0, .int .u64 0] 87)).alloc (.cells #[.int .u64 0, .int .u64 0] 87)) (.cells #[.int .u64 0, .int .u64 0] 87)
      rw [show ((w.alloc (.cells #[.int .u64 0, .int .u64 0] 87)).alloc (.cells #[.int .u64 0, .int .u64 0] 87)).heap.size = w.heap.size + 2 by simp] at h
      exact h
  have o0 := HS.out.2.1.c0
  have o1 := HS.out.2.1.c1
  have f0 := HS.out.1.fz 0
  have f1 := HS.out.1.fz 1
  have g0 := HS.out.1.c0
  have g1 := HS.out.1.c1
  have HE : Hid (C2 ((W3.setCell ⟨w.heap.size + 1, 0, none⟩ (.int .u64 ((0 : Nat) : Int))).setCell ⟨w.heap.size + 1, 1, none⟩ (.int .u64 0)) (w.heap.size + 1) 0 ∧ Below w.heap.size w ((W3.setCell ⟨w.heap.size + 1, 0, none⟩ (.int .u64 ((0 : Nat) : Int))).setCell ⟨w.heap.size + 1, 1, none⟩ (.int .u64 0))) :=
    hide ⟨two_end HS.out.1 0, ((HS.out.2.2.setCell (p := ⟨w.heap.size + 1, 0, none⟩) (by simp) _).setCell (p := ⟨w.heap.size + 1, 1, none⟩) (by simp) _)⟩
  go_enter Tryz.func60, Tryz.ntmps60
  go_wp2
  rw [← hW3]
  clear hW3
  go_loopw [6, 7, 9] (fun v6 v7 iv wr => (iv = .int .i64 0 ∨ iv = .int .i64 1 ∨ iv = .int .i64 2) ∧ wr = W3) (fun _ _ iv _ => 2 - (intOf iv).toNat)
  case atStart => exact ⟨.inl rfl, rfl⟩
  case round =>
    obtain ⟨rfl | rfl | rfl, rfl⟩ := hrel
    · go_wp2
      go_loopw [7] (fun v7 wr' => v7 = .int .u64 0 ∧ wr' = wr) (fun v7 _ => 0)
      case atStart => exact ⟨rfl, rfl⟩
      case round =>
        obtain ⟨rfl, rfl⟩ := hrel
        go_wp2
        go_roundw
        case rel => exact ⟨.inr (.inl rfl), trivial⟩
        case measure => simp [intOf]
    · go_wp2
      go_loopw [7] (fun v7 wr' => v7 = .int .u64 0 ∧ wr' = wr) (fun v7 _ => 0)
      case atStart => exact ⟨rfl, rfl⟩
      case round =>
        obtain ⟨rfl, rfl⟩ := hrel
        go_wp2
        go_roundw
        case rel => exact ⟨.inr (.inr rfl), trivial⟩
        case measure => simp [intOf]
    · go_wp2
      exact bodyPost_ret (results_cell_row rfl _ _ (w.heap.size + 1) 87 _ (0, 0) _ rfl HE.out.1 Tryz.underlying87 rfl (size87.trans (by simp))) rfl ⟨rfl, HE.out.2⟩
end Go.Proofs.YtfpeajbfimodfaaGreatDoor.thr
